import Derived.Test.YtnccklbnncaeoaaGreatJai
import Derived.Test.YtnccklbnncaeoaaGreatJae
import Derived.Test.YtnccklbnncaeoaaGreatJac
import Derived.Deep.CutRange
/- Bytes are written. -/
namespace Go.Proofs.YtnccklbnncaeoaaGreat
open Go.RowKit Go.Shelf
attribute [local go_sem] Oper.semAt_some

/-- The bytes of a piece. -/
def wby (p : Nat) (xs : List Int) (x : Nat × Nat) : List Int := (xs.drop (x.1 - p)).take x.2
def gw1 (p : Nat) (xs : List Int) (q : Gf) (x : Nat × Nat) : Gf := ⟨max q.sz (x.1 + x.2), q.L, q.ps ++ [(x.1, wby p xs x)]⟩
/-- A file behind writes of these pieces. -/
def gwr (p : Nat) (xs : List Int) (q : Gf) (l : List (Nat × Nat)) : Gf := l.foldl (gw1 p xs) q
theorem gwr_snoc (p : Nat) (xs : List Int) (q : Gf) (l : List (Nat × Nat)) (x : Nat × Nat) : gwr p xs q (l ++ [x]) = gw1 p xs (gwr p xs q l) x := by simp [gwr]
theorem gwr_len (p : Nat) (xs : List Int) (q : Gf) (l : List (Nat × Nat)) : (gwr p xs q l).ps.length = q.ps.length + l.length := by
  induction l generalizing q with
  | nil => rfl
  | cons x l ih =>
    show (gwr p xs (gw1 p xs q x) l).ps.length = _
    rw [ih]
    simp [gw1]
    omega
theorem wby_len (p m : Nat) (xs : List Int) (x : Nat × Nat) (hm : m = xs.length) (h1 : p ≤ x.1) (h2 : x.1 + x.2 ≤ p + m) : (wby p xs x).length = x.2 := by
  unfold wby
  rw [List.length_take, List.length_drop]
  omega
/-- How many pieces a step does at most. -/
def lft (k0 n0 : Int) (m : Nat) : Nat := if k0 = 0 then m else (min (max n0 0) (m : Int)).toNat
theorem lft_int (k0 n0 : Int) (m : Nat) : (if k0 = 0 then (m : Int) else min (max n0 0) (m : Int)) = (lft k0 n0 m : Int) := by
  unfold lft
  by_cases h : k0 = 0
  · rw [if_pos h, if_pos h]
  · rw [if_neg h, if_neg h]; omega
theorem kept_f (k n : Int) (m : Nat) (w : World) : Calls Tryz.prog 149 #[.agg #[.int .i64 k, .int .i64 n], .int .i64 m] w fun e w' => e = .returned (.int .i64 (lft k n m : Int)) ∧ Below w.heap.size w w' := by
  rw [← lft_int]
  exact kept_any k n m w
/-- What the loop of Write keeps. -/
structure WtI (D : Nat → Prop) (w1 : World) (a : Fa) (q : Gf) (p m cap lf : Nat) (ao : Option Addr) (xs : List Int) (B0 Bf Bl B6 : Nat) (k0 n0 : Int) (pre : List (Nat × Nat)) (W : World) (D' : Nat → Prop) (a' : Fa) : Prop where
  wk : Wk D w1 a.own W D' a'.own
  fb : a'.fb = a.fb ∧ a'.lm = a.lm ∧ a'.om = a.om
  f : Fr D' W a' (gwr p xs q pre).sz (gwr p xs q pre).L (gwr p xs q pre).ps
  b6 : St 2 W B0 #[.int .i64 p]
  b7 : St 47 W (B0 + 1) #[.slice ao m cap]
  b9 : St 159 W (B0 + 1 + 1) #[.pointer (some ⟨a.fb, 0, none⟩)]
  bf : St 137 W Bf #[.int .i64 k0, .int .i64 n0]
  bl : St 3 W Bl #[.int .i64 ((lf - pre.length : Nat) : Int)]
  le : pre.length ≤ lf
  sr : Src .u8 W ao xs
  d6 : ∀ i, D' i → D i ∨ B6 ≤ i
  o6 : ∀ i, i ∈ a'.own → i ∈ a.own ∨ B6 ≤ i
  z6 : B6 ≤ W.heap.size
theorem WtI.turns {D : Nat → Prop} {w1 : World} {a : Fa} {q : Gf} {p m cap lf : Nat} {ao : Option Addr} {xs : List Int} {B0 Bf Bl B6 : Nat} {k0 n0 : Int} {pre : List (Nat × Nat)} {W W' : World} {D' : Nat → Prop} {a' : Fa} {B : Nat} (h : WtI D w1 a q p m cap lf ao xs B0 Bf Bl B6 k0 n0 pre W D' a') (t : Turns B W W') (hB : w1.heap.size ≤ B) (h1 : a.lm < B) (h2 : a.om < B) : WtI D w1 a q p m cap lf ao xs B0 Bf Bl B6 k0 n0 pre W' D' a' :=
  ⟨h.wk.turns t hB, h.fb, h.f.turns t (by rw [h.fb.2.1]; exact h1) (by rw [h.fb.2.2]; exact h2), h.b6.turns t, h.b7.turns t, h.b9.turns t, h.bf.turns t, h.bl.turns t, h.le, h.sr.turns t, h.d6, h.o6, Nat.le_trans h.z6 t.size⟩
set_option maxRecDepth 100000 in
set_option maxHeartbeats 2000000 in
theorem write_go (D : Nat → Prop) (w : World) (g fm : Nat) (fv : Value) (steps : Nat) (l r : List Fe) (ft : List (Int × Int)) (es : List (ByteArray × Value × Nat)) (c : Nat) (s : ByteArray) (a : Fa) (q : Gf) (h : Sr D w g fm fv steps (l ++ (s, a, q) :: r) ft es c) (hq : fget (l ++ (s, a, q) :: r) s = some (s, a, q)) (hsb : steps < 1000000000) (k0 n0 : Int) (hk : ft.headD (0, 0) = (k0, n0))
    (p m cap : Nat) (ao : Option Addr) (xs : List Int) (hm : m = xs.length) (hb : p + m ≤ 268435456) (hS : Src .u8 w ao xs) (hcap : m ≤ cap) (hdis : 0 < m → ∀ b off, ao = some ⟨b, off, none⟩ → b ∉ ownS g fm fv (l ++ (s, a, q) :: r)) (hnb : q.ps.length + m ≤ 1000000000) :
    CallsIn Fence.wide 5 Tryz.prog 115 #[.pointer (some ⟨g, 0, none⟩), .string s, .int .i64 p, .slice ao m cap] w fun e w' => e = .returned (.int .i64 (ferr k0)) ∧ ∃ D' fv' a', Sr D' w' g fm fv' (steps + 1) (l ++ (s, a', gwr p xs q ((pcs p m).take (lft k0 n0 m))) :: r) ft.tail es c ∧ fv'.ownBlock = fv.ownBlock ∧ Wk D w (g :: a.own) w' D' (g :: a'.own) := by
  have hn : nmd s = true := h.nm (s, a, q) (by simp)
  have HFI : Hid (Calls Tryz.prog 79 #[.pointer (some ⟨g, 0, none⟩), .string s] ((w.alloc (.cells #[.int .i64 p] 2)).alloc (.cells #[.slice ao m cap] 47)) fun e w' => e = .returned (.tuple #[.pointer (some ⟨a.fb, 0, none⟩), .int .i64 0]) ∧ w' = ((w.alloc (.cells #[.int .i64 p] 2)).alloc (.cells #[.slice ao m cap] 47))) :=
    (h.kp (F := fun _ => False) (((Kp.refl _ _).alloc _).alloc _) (fun _ _ h => h) (fun _ _ h => h)).file_some s hn (s, a, q) hq
  have HS : Hid (Sr D w g fm fv steps (l ++ (s, a, q) :: r) ft es c) := h
  have HK : Hid (ft.headD (0, 0) = (k0, n0)) := hk
  have HM : Hid (m = xs.length) := hm
  have HSR : Hid (Src .u8 w ao xs) := hS
  have HDI : Hid (0 < m → ∀ b off, ao = some ⟨b, off, none⟩ → b ∉ ownS g fm fv (l ++ (s, a, q) :: r)) := hdis
  have hsp := h.sb
  clear h hq hk hm hS hdis hn
  refine callsIn_of_wp_marks Tryz.func115 rfl trivial ?_ rfl
  simp only [Tryz.ntmps115, List.size_toArray, List.length_cons, List.length_nil, Nat.reduceAdd, Nat.reduceSub, Array.replicate_succ, Array.replicate_zero, List.push_toArray, List.append_toArray, List.nil_append, List.cons_append]
  gi_wp2_with fail
  refine ⟨trivial, (callsIn_wide.2 HFI.out).mono ?_⟩
  rintro e w' ⟨rfl, hw'⟩
  subst hw'
  gi_wp2_with fail
  have k1 : Kp (fun _ => False) w (((w.alloc (.cells #[.int .i64 p] 2)).alloc (.cells #[.slice ao m cap] 47)).alloc (.cells #[.pointer (some ⟨a.fb, 0, none⟩)] 159)) := (((Kp.refl _ _).alloc _).alloc _).alloc _
  have t6 : St 2 (((w.alloc (.cells #[.int .i64 p] 2)).alloc (.cells #[.slice ao m cap] 47)).alloc (.cells #[.pointer (some ⟨a.fb, 0, none⟩)] 159)) w.heap.size #[.int .i64 p] := (St.new 2 w _).kp (F := fun _ => False) (((Kp.refl _ _).alloc _).alloc _) (fun h => h)
  have t7 : St 47 (((w.alloc (.cells #[.int .i64 p] 2)).alloc (.cells #[.slice ao m cap] 47)).alloc (.cells #[.pointer (some ⟨a.fb, 0, none⟩)] 159)) (w.heap.size + 1) #[.slice ao m cap] := by
    have := (St.new 47 (w.alloc (.cells #[.int .i64 p] 2)) #[.slice ao m cap]).kp (F := fun _ => False) ((Kp.refl _ _).alloc (.cells #[.pointer (some ⟨a.fb, 0, none⟩)] 159)) (fun h => h)
    rwa [World.size_alloc] at this
  have t9 : St 159 (((w.alloc (.cells #[.int .i64 p] 2)).alloc (.cells #[.slice ao m cap] 47)).alloc (.cells #[.pointer (some ⟨a.fb, 0, none⟩)] 159)) (w.heap.size + 1 + 1) #[.pointer (some ⟨a.fb, 0, none⟩)] := by
    have := St.new 159 ((w.alloc (.cells #[.int .i64 p] 2)).alloc (.cells #[.slice ao m cap] 47)) #[.pointer (some ⟨a.fb, 0, none⟩)]
    rwa [World.size_alloc, World.size_alloc] at this
  have z1 : (((w.alloc (.cells #[.int .i64 p] 2)).alloc (.cells #[.slice ao m cap] 47)).alloc (.cells #[.pointer (some ⟨a.fb, 0, none⟩)] 159)).heap.size = w.heap.size + 3 := by simp [World.size_alloc]
  generalize (((w.alloc (.cells #[.int .i64 p] 2)).alloc (.cells #[.slice ao m cap] 47)).alloc (.cells #[.pointer (some ⟨a.fb, 0, none⟩)] 159)) = W1 at k1 t6 t7 t9 z1 ⊢
  have S1 := HS.out.kp k1 (fun _ _ h => h) (fun _ _ h => h)
  have hlt := HS.out.lt
  have hgl : g < w.heap.size := hlt g (mem_ownS.2 (.inl rfl))
  refine ⟨trivial, (callsIn_wide.2 (step_any g _ fv steps ft _ S1.st (by omega) S1.fa S1.fvg)).mono ?_⟩
  rintro e w2 ⟨rfl, fv1, s2, f2, o2, k2⟩
  rw [HK.out]
  have S2 := S1.stepped s2 f2 o2 k2 hsb
  have HS2 : Hid (Sr D w2 g fm fv1 (steps + 1) (l ++ (s, a, q) :: r) ft.tail es c) := S2
  have HO2 : Hid (fv1.ownBlock = fv.ownBlock) := o2
  have z2 := k2.size
  replace t6 := t6.kp k2 (by omega)
  replace t7 := t7.kp k2 (by omega)
  replace t9 := t9.kp k2 (by omega)
  have K2 : Hid (Kp (fun i => i = g) w w2) := (k1.mono (G := fun i => i = g) (fun _ _ h => h.elim)).trans k2 (fun _ _ h => h)
  have HT6 : Hid (St 2 w2 w.heap.size #[.int .i64 p]) := t6
  have HT7 : Hid (St 47 w2 (w.heap.size + 1) #[.slice ao m cap]) := t7
  have HT9 : Hid (St 159 w2 (w.heap.size + 1 + 1) #[.pointer (some ⟨a.fb, 0, none⟩)]) := t9
  have u6 : w2.cell? ⟨w.heap.size, 0, none⟩ = some (.int .i64 p) := t6.cell 0
  have u7 : w2.cell? ⟨w.heap.size + 1, 0, none⟩ = some (.slice ao m cap) := t7.cell 0
  have y1 : w.heap.size + 1 < w2.heap.size := by omega
  have y0 : w.heap.size < w2.heap.size := by omega
  have HZ2 : Hid (w.heap.size + 3 ≤ w2.heap.size) := by show _ ≤ _; omega
  clear S1 S2 s2 f2 o2 k1 k2 t6 t7 t9 z1 z2
  generalize decide ((p : Int) < 0) = q1
  generalize decide (268435456 - (p : Int) < (m : Int)) = q2
  gi_wp2_with fail
  have tf := St.new 137 w2 #[.int .i64 k0, .int .i64 n0]
  have k3 : Kp (fun _ => False) w2 (w2.alloc (.cells #[.int .i64 k0, .int .i64 n0] 137)) := (Kp.refl _ _).alloc _
  generalize w2.alloc (.cells #[.int .i64 k0, .int .i64 n0] 137) = W3 at tf k3 ⊢
  refine ⟨trivial, (callsIn_wide.2 (kept_f k0 n0 m _)).mono ?_⟩
  rintro e w4 ⟨rfl, b4⟩
  obtain ⟨lf, hlf⟩ : ∃ lf, lf = lft k0 n0 m := ⟨_, rfl⟩
  rw [← hlf]
  have HLF : Hid (lf = lft k0 n0 m) := hlf
  have k4 : Kp (fun _ => False) w2 w4 := k3.trans (Kp.of_below b4) (fun _ _ h => h)
  have HTF : Hid (St 137 w4 w2.heap.size #[.int .i64 k0, .int .i64 n0]) := tf.kp (F := fun _ => False) (Kp.of_below b4) (fun h => h)
  have z4 : w2.heap.size < w4.heap.size := HTF.out.lt
  have K4 : Hid (Kp (fun _ => False) w2 w4) := k4
  have v6 : w4.cell? ⟨w.heap.size, 0, none⟩ = some (.int .i64 p) := kp_cell k4 u6 (fun h => h)
  have v7 : w4.cell? ⟨w.heap.size + 1, 0, none⟩ = some (.slice ao m cap) := kp_cell k4 u7 (fun h => h)
  have y2 : w.heap.size + 1 < w4.heap.size := by omega
  have y3 : w.heap.size < w4.heap.size := by omega
  clear tf k3 b4 k4 hlf u6 u7 y0 y1
  gi_wp2_with fail
  refine ⟨trivial, (cuts_in Fence.wide 4 trivial rfl _ _ _).mono ?_⟩
  rintro e w5 ⟨rfl, hw5⟩
  subst hw5
  gi_wp2_with fail
  have tl : St 3 (((w4.alloc (.cells #[.int .i64 lf] 3)).alloc (.cells #[.int .i64 p] 2)).alloc (.cells #[.int .i64 m] 3)) w4.heap.size #[.int .i64 lf] := (St.new 3 w4 _).kp (F := fun _ => False) (((Kp.refl _ _).alloc _).alloc _) (fun h => h)
  have tp : St 2 (((w4.alloc (.cells #[.int .i64 lf] 3)).alloc (.cells #[.int .i64 p] 2)).alloc (.cells #[.int .i64 m] 3)) (w4.heap.size + 1) #[.int .i64 p] := by
    have := (St.new 2 (w4.alloc (.cells #[.int .i64 lf] 3)) #[.int .i64 p]).kp (F := fun _ => False) ((Kp.refl _ _).alloc (.cells #[.int .i64 m] 3)) (fun h => h)
    rwa [World.size_alloc] at this
  have tm : St 3 (((w4.alloc (.cells #[.int .i64 lf] 3)).alloc (.cells #[.int .i64 p] 2)).alloc (.cells #[.int .i64 m] 3)) (w4.heap.size + 1 + 1) #[.int .i64 m] := by
    have := St.new 3 ((w4.alloc (.cells #[.int .i64 lf] 3)).alloc (.cells #[.int .i64 p] 2)) #[.int .i64 m]
    rwa [World.size_alloc, World.size_alloc] at this
  have k6 : Kp (fun _ => False) w4 (((w4.alloc (.cells #[.int .i64 lf] 3)).alloc (.cells #[.int .i64 p] 2)).alloc (.cells #[.int .i64 m] 3)) := (((Kp.refl _ _).alloc _).alloc _).alloc _
  have z6 : (((w4.alloc (.cells #[.int .i64 lf] 3)).alloc (.cells #[.int .i64 p] 2)).alloc (.cells #[.int .i64 m] 3)).heap.size = w4.heap.size + 3 := by simp [World.size_alloc]
  generalize (((w4.alloc (.cells #[.int .i64 lf] 3)).alloc (.cells #[.int .i64 p] 2)).alloc (.cells #[.int .i64 m] 3)) = W6 at tl tp tm k6 z6 ⊢
  have k26 : Kp (fun _ => False) w2 W6 := K4.out.trans k6 (fun _ _ h => h)
  have S6 : Sr D W6 g fm fv1 (steps + 1) (l ++ (s, a, q) :: r) ft.tail es c := HS2.out.kp k26 (fun _ _ h => h) (fun _ _ h => h)
  have HS6 : Hid (Sr D W6 g fm fv1 (steps + 1) (l ++ (s, a, q) :: r) ft.tail es c) := S6
  have K6 : Hid (Kp (fun i => i = g) w W6) := K2.out.trans k26 (fun _ _ h => h.elim)
  have fr6 : Fr D W6 a q.sz q.L q.ps := S6.fr (s, a, q) (by simp)
  have hown : ∀ i, i ∈ a.own → i < w.heap.size := fun i hi => hlt i (mem_ownS.2 (.inr (.inr (.inr ⟨(s, a, q), by simp, hi⟩))))
  have hfbl : a.fb < w.heap.size := hown _ (by rw [Fa.mem]; exact .inl rfl)
  have hlml : a.lm < w.heap.size := hown _ (by rw [Fa.mem]; exact .inr (.inl rfl))
  have homl : a.om < w.heap.size := hown _ (by rw [Fa.mem]; exact .inr (.inr (.inl rfl)))
  have hDlt : ∀ i, D i → i < w.heap.size := HS.out.db
  have hz2 := HZ2.out
  have sr6 : Src .u8 W6 ao xs := fun hp => (HSR.out.kp K6.out (fun b off e h => HDI.out (by rw [HM.out]; exact hp) b off e (mem_ownS.2 (.inl h)))) hp
  have i0 : WtI D w2 a q p m cap lf ao xs w.heap.size w2.heap.size w4.heap.size W6.heap.size k0 n0 [] W6 D a := ⟨(Wk.refl _ _ _).kp k26, ⟨rfl, rfl, rfl⟩, fr6, HT6.out.kp k26 (fun h => h), HT7.out.kp k26 (fun h => h), HT9.out.kp k26 (fun h => h), HTF.out.kp k6 (fun h => h), tl, Nat.zero_le _, sr6, fun i h => .inl h, fun i h => .inl h, Nat.le_refl _⟩
  clear S6 fr6 sr6 tl k26 k6 v6 v7
  refine wpIn_rangeFunc_ownH rfl (by omega) (gf := 162) (lb := #[.pointer (some ⟨w4.heap.size + 1, 0, none⟩), .pointer (some ⟨w4.heap.size + 1 + 1, 0, none⟩)]) rfl trivial (enters_of Tryz.func162 (by kernel_rfl) rfl)
    (cuts_stops Fence.wide (5 - 1) trivial rfl (by omega) (w4.heap.size + 1) (w4.heap.size + 1 + 1) p m (by omega) W6 (tp.cell 0) (tm.cell 0)) (fun _ _ => trivial) (fun _ _ _ _ _ _ _ _ => trivial) (Below.refl _ _) (fun _ => rfl)
    (fun (pre : List (Cx p m)) W => ∃ D' a', WtI D w2 a q p m cap lf ao xs w.heap.size w2.heap.size w4.heap.size W6.heap.size k0 n0 (pre.map (fun x : Cx p m => x.1)) W D' a')
    (fun cc (pre : List (Cx p m)) W => cc = .exit 0 ∧ ∃ pre0 x, pre = pre0 ++ [x] ∧ pre0.length = lf ∧ ∃ D' a', WtI D w2 a q p m cap lf ao xs w.heap.size w2.heap.size w4.heap.size W6.heap.size k0 n0 (pre0.map (fun x : Cx p m => x.1)) W D' a')
    (fun pp A B row hs hg hr => by
      obtain ⟨D', a', h⟩ := hs
      exact ⟨D', a', h.turns (turns_own hg hr) (by omega) (by omega) (by omega)⟩)
    (fun cc pp A B row hs hg hr => by
      obtain ⟨h1, pre0, x, h2, h3, D', a', h⟩ := hs
      exact ⟨h1, pre0, x, h2, h3, D', a', h.turns (turns_own hg hr) (by omega) (by omega) (by omega)⟩) ⟨D, a, i0⟩
    (fun x a1 W => ∃ Bx, W6.heap.size ≤ Bx ∧ St 133 W Bx #[.int .i64 (x.1.1 : Int), .int .i64 (x.1.2 : Int)] ∧ a1 = { tmps := #[.pointer (some ⟨g, 0, none⟩), .string s, .int .i64 p, .slice ao m cap, undef, undef, .pointer (some ⟨w.heap.size, 0, none⟩), .pointer (some ⟨w.heap.size + 1, 0, none⟩), .int .i64 0, .pointer (some ⟨w.heap.size + 1 + 1, 0, none⟩), .int .i64 0, .pointer (some ⟨w2.heap.size, 0, none⟩), .pointer (some ⟨w4.heap.size, 0, none⟩), .pointer (some ⟨Bx, 0, none⟩), .tuple #[.pointer (some ⟨a.fb, 0, none⟩), .int .i64 0], .pointer (some ⟨g, 0, none⟩), .string s, .tuple #[.pointer (some ⟨a.fb, 0, none⟩), .int .i64 0], .pointer (some ⟨a.fb, 0, none⟩), .int .i64 0, .int .i64 0, .bool false, undef, .int .i64 p, .bool q1, .slice ao m cap, .int .i64 m, .int .i64 p, .int .i64 (268435456 - (p : Int)), .bool q2, .pointer (some ⟨g, 0, none⟩), .agg #[.int .i64 k0, .int .i64 n0], .agg #[.int .i64 k0, .int .i64 n0], .slice ao m cap, .int .i64 m, .int .i64 lf, .int .i64 p, .slice ao m cap, .int .i64 m, .func (.func 162) #[] #[.pointer (some ⟨w4.heap.size + 1, 0, none⟩), .pointer (some ⟨w4.heap.size + 1 + 1, 0, none⟩)], .agg #[.int .i64 (x.1.1 : Int), .int .i64 (x.1.2 : Int)], undef, undef, undef, undef, undef, undef, undef, undef, undef, undef, undef, undef, undef, undef, undef, undef, undef, undef, undef], defers := [] })
    (fun x a1 pp A B row hs hg hr => by
      obtain ⟨Bx, q1, q2, q3⟩ := hs
      exact ⟨Bx, q1, q2.turns (turns_own hg hr), q3⟩) ?assign ?body ?done ?stop
  case assign =>
    intro l pre x W K hi hK
    dsimp only [cenc]
    gi_wp2
    obtain ⟨D', a', hi⟩ := hi
    have t0 : Turns W6.heap.size W (W.alloc (.cells #[.int .i64 (x.1.1 : Int), .int .i64 (x.1.2 : Int)] 133)) := ⟨none, World.grownBy_alloc _ _ _, fun r e => by cases e⟩
    exact hK _ _ ((KeepsOthers.alloc _ _).from _) trivial ⟨D', a', hi.turns t0 (by omega) (by omega) (by omega)⟩ ⟨W.heap.size, hi.z6, St.new 133 W _, rfl⟩
  case body =>
    rintro lp pre x a1 W hl hlr ⟨D', a', hi⟩ ⟨Bx, hBx, sx, rfl⟩ hlen
    obtain ⟨⟨y, n1⟩, hx⟩ := x
    dsimp only at sx ⊢
    have hm4 := pcs_mem m p (y, n1) hx
    dsimp only at hm4
    obtain ⟨h41, h42, h43, h44⟩ := hm4
    have HI : Hid (WtI D w2 a q p m cap lf ao xs w.heap.size w2.heap.size w4.heap.size W6.heap.size k0 n0 (pre.map (fun x : Cx p m => x.1)) W D' a') := hi
    have c6 : W.cell? ⟨w.heap.size, 0, none⟩ = some (.int .i64 p) := hi.b6.cell 0
    have c7 : W.cell? ⟨w.heap.size + 1, 0, none⟩ = some (.slice ao m cap) := hi.b7.cell 0
    have c9 : W.cell? ⟨w.heap.size + 1 + 1, 0, none⟩ = some (.pointer (some ⟨a.fb, 0, none⟩)) := hi.b9.cell 0
    have cl : W.cell? ⟨w4.heap.size, 0, none⟩ = some (.int .i64 ((lf - (pre.map (fun x : Cx p m => x.1)).length : Nat) : Int)) := hi.bl.cell 0
    have fl : W.frozen? ⟨w4.heap.size, 0, none⟩ = false := hi.bl.frozen 0
    have x0 : W.cell? ⟨Bx, 0, none⟩ = some (.int .i64 y) := sx.cell 0
    have x1 : W.cell? ⟨Bx, 1, none⟩ = some (.int .i64 n1) := sx.cell 1
    have hle := hi.le
    rw [List.length_map] at cl hle
    by_cases hz : pre.length = lf
    · have cl0 : W.cell? ⟨w4.heap.size, 0, none⟩ = some (.int .i64 0) := by rw [cl, hz, Nat.sub_self]; rfl
      clear cl
      gi_wp2
      exact ⟨KeepsFrom.refl _ _, rfl, pre, _, rfl, hz, D', a', HI.out⟩
    · obtain ⟨b, off, rfl, hsc⟩ := hi.sr (by rw [← HM.out]; omega)
      have hbl : b < w.heap.size := by
        obtain ⟨b', off', e', hc'⟩ := HSR.out (by rw [← HM.out]; omega)
        cases e'
        exact block_lt_of_cell (hc' 0 (by rw [← HM.out]; omega))
      have hbo : b ∉ a.own := fun hm => HDI.out (by omega) b off rfl (mem_ownS.2 (.inr (.inr (.inr ⟨(s, a, q), by simp, hm⟩))))
      obtain ⟨LL, hLL⟩ : ∃ LL, lf - pre.length = LL + 1 := ⟨lf - pre.length - 1, by omega⟩
      rw [hLL] at cl
      have hzb : (((LL + 1 : Nat) : Int) == 0) = false := beq_eq_false_iff_ne.2 (by omega)
      have hsb1 : ((LL + 1 : Nat) : Int) - 1 = (LL : Int) := by omega
      have hlfm : lf ≤ m := by rw [HLF.out]; unfold lft; split <;> omega
      have hLb : LL ≤ 1000000000 := by omega
      have HLL : Hid (lf - pre.length = LL + 1) := hLL
      clear hLL hsc
      -- left--
      have k8 : Kp (fun i => i = w4.heap.size) W (W.setCell ⟨w4.heap.size, 0, none⟩ (.int .i64 LL)) := kp_setCell _ _ _ _ _ rfl
      have tl8 : St 3 (W.setCell ⟨w4.heap.size, 0, none⟩ (.int .i64 LL)) w4.heap.size #[.int .i64 LL] := hi.bl.set 0 _
      gi_wp2_with fail
      generalize W.setCell ⟨w4.heap.size, 0, none⟩ (.int .i64 LL) = W8 at k8 tl8 ⊢
      have d6 : W8.cell? ⟨w.heap.size, 0, none⟩ = some (.int .i64 p) := kp_cell k8 c6 (by omega)
      have d7 : W8.cell? ⟨w.heap.size + 1, 0, none⟩ = some (.slice (some ⟨b, off, none⟩) m cap) := kp_cell k8 c7 (by omega)
      have d9 : W8.cell? ⟨w.heap.size + 1 + 1, 0, none⟩ = some (.pointer (some ⟨a.fb, 0, none⟩)) := kp_cell k8 c9 (by omega)
      have e0 : W8.cell? ⟨Bx, 0, none⟩ = some (.int .i64 y) := kp_cell k8 x0 (by omega)
      have e1 : W8.cell? ⟨Bx, 1, none⟩ = some (.int .i64 n1) := kp_cell k8 x1 (by omega)
      have hsub : (y : Int) - (p : Int) = ((y - p : Nat) : Int) := by omega
      have hcp : ¬ cap = y - p := by omega
      have hn1 : n1 ≤ cap - (y - p) := by omega
      clear c6 c7 c9 x0 x1 cl fl
      refine wpIn_region_tail hmix (by kernel_rfl) ?_
      dsimp only [List.dropLast, List.getLast]
      repeat (gi_big_quiet_step (fail))
      refine wpQuietIn_nil ?_
      intro _ hw'
      obtain ⟨nq, hw2⟩ := hw'
      subst hw2
      have kq := drewN_kp (fun i => i = w4.heap.size) W8 nq
      have kq0 := drewN_kp (fun _ => False) W8 nq
      generalize W8.drewN nq = X at kq kq0 ⊢
      have kX : Kp (fun i => i = w4.heap.size) W X := k8.trans kq (fun _ _ h => h)
      have zX := kX.size
      have nbl : w4.heap.size ∉ a'.own := fun hm => (HI.out.o6 _ hm).elim (fun h => by have := hown _ h; omega) (fun h => by omega)
      have nbd : ∀ i, D' i → ¬ i = w4.heap.size := fun i hi e => (HI.out.d6 i hi).elim (fun h => by have := hDlt i h; omega) (fun h => by omega)
      have frX := HI.out.f.kp kX (fun i hi e => nbl (e ▸ hi)) nbd
      have srX : Src .u8 X (some ⟨b, off + (y - p), none⟩) (wby p xs (y, n1)) := by
        have h1 : Src .u8 X (some ⟨b, off, none⟩) xs := HI.out.sr.kp kX (fun b' off' e h => by cases e; omega)
        unfold wby
        exact (h1.drop (y - p)).take n1
      have hwl := wby_len p m xs (y, n1) HM.out h41 h42
      have hwr := write_any D' a' _ _ _ y n1 (cap - (y - p)) ⟨b, off + (y - p), none⟩ (wby p xs (y, n1)) X frX srX hwl.symm h43 h44 (by omega) (by rw [gwr_len, List.length_map]; omega)
      rw [HI.out.fb.1] at hwr
      gi_wp2_with fail
      refine ⟨trivial, ?_⟩
      refine (CallsIn.inRound lp (callsIn_wide.2 hwr)).mono ?_
      rintro e w9 ⟨rfl, a9, hfb9, ho9, f9, k9⟩
      gi_wp2
      have z9 := k9.size
      have HP : (pre ++ [(⟨(y, n1), hx⟩ : Cx p m)]).map (fun x : Cx p m => x.1) = pre.map (fun x : Cx p m => x.1) ++ [(y, n1)] := by rw [List.map_append]; rfl
      have hlow : ∀ i, w.heap.size ≤ i → i < W6.heap.size → ¬ i ∈ a'.own := fun i h1 h2 hm => (HI.out.o6 _ hm).elim (fun h => by have := hown _ h; omega) (fun h => by omega)
      have keepf : KeepsFrom W6.heap.size W w9 := by
        have h1 : KeepsFrom W6.heap.size W X := kfrom_of_kp kX (fun i e => by omega)
        exact h1.trans (frX.keeps k9 (by rw [HI.out.fb.1]; omega) (by rw [HI.out.fb.2.1]; omega) (by rw [HI.out.fb.2.2]; omega))
      have z6W := HI.out.z6
      refine ⟨keepf, trivial, (fun i => D' i ∨ (X.heap.size ≤ i ∧ i < w9.heap.size ∧ i ∉ a9.own)), a9, ?_⟩
      rw [HP]
      refine ⟨⟨(HI.out.wk.k.trans kX (fun i hi e => by omega)).trans k9 (fun i hi h => (HI.out.wk.o i h).elim id (fun h => by omega)), fun i hi => ?_, fun i hi => .inl (HI.out.wk.d i hi), fun i hi => ?_⟩, ⟨hfb9.1, hfb9.2.1.trans HI.out.fb.2.1, hfb9.2.2.trans HI.out.fb.2.2⟩, by rw [gwr_snoc]; exact f9, (HI.out.b6.kp kX (by omega)).kp k9 (hlow _ (by omega) (by omega)), (HI.out.b7.kp kX (by omega)).kp k9 (hlow _ (by omega) (by omega)), (HI.out.b9.kp kX (by omega)).kp k9 (hlow _ (by omega) (by omega)), (HI.out.bf.kp kX (by omega)).kp k9 (hlow _ (by omega) (by omega)), ?_, ?_, ?_, fun i hi => ?_, fun i hi => ?_, by omega⟩
      · rcases ho9 i hi with h | h
        · exact HI.out.wk.o i h
        · exact .inr (by omega)
      · rcases hi with h | h
        · exact HI.out.wk.e i h
        · exact .inr (by have := h.1; omega)
      · have e : lf - (pre.map (fun x : Cx p m => x.1) ++ [(y, n1)]).length = LL := by rw [List.length_append, List.length_map]; have := HLL.out; simp; omega
        rw [e]
        exact (tl8.kp kq0 (fun h => h)).kp k9 (hlow _ (by omega) (by omega))
      · rw [List.length_append, List.length_map]; have := HLL.out; simp; omega
      · refine (HI.out.sr.kp kX (fun b' off' e h => by cases e; omega)).kp k9 (fun b' off' e h => ?_)
        cases e
        rcases HI.out.o6 _ h with h | h
        · exact hbo h
        · omega
      · rcases hi with h | h
        · exact HI.out.d6 i h
        · exact .inr (by have := h.1; omega)
      · rcases ho9 i hi with h | h
        · exact HI.out.o6 i h
        · exact .inr (by omega)
  case done =>
    rintro Dd ys W hD hys ⟨D', a', hi⟩ hK
    have hle := hi.le
    rw [hys] at hi hle
    have htk : (pcs p m).take (lft k0 n0 m) = pcs p m := List.take_of_length_le (by rw [← HLF.out]; exact hle)
    have f0 : W.cell? ⟨w2.heap.size, 0, none⟩ = some (.int .i64 k0) := hi.bf.cell 0
    have f1 : W.cell? ⟨w2.heap.size, 1, none⟩ = some (.int .i64 n0) := hi.bf.cell 1
    have HTK := htk
    have HI : Hid (WtI D w2 a q p m cap lf ao xs w.heap.size w2.heap.size w4.heap.size W6.heap.size k0 n0 (pcs p m) W D' a') := hi
    clear hi hys htk hle
    gi_wp2_with fail
    refine ⟨trivial, (callsIn_wide.2 (came_f k0 n0 _)).mono ?_⟩
    rintro e w7 ⟨rfl, b7⟩
    have k7 : Kp (fun _ => False) W w7 := Kp.of_below b7
    have HK7 : w7.heap[Dd]? = some (.deferred (some [])) := (k7.block Dd (Array.getElem?_eq_some_iff.1 hK).1 (fun h => h)).trans hK
    gi_wp2
    refine ⟨by simp, .inl ⟨_, _, rfl, run_takeDeferred HK7, ?_⟩⟩
    have kp := kp_put1 w7 Dd (.deferred none)
    have kE : Kp (fun i => i = Dd) W (w7.putObj Dd (.deferred none)) := (k7.mono (G := fun i => i = Dd) (fun _ _ h => h.elim)).trans kp (fun _ _ h => h)
    have zD : Dd < W.heap.size := (Array.getElem?_eq_some_iff.1 hK).1
    have nown : ∀ i, i ∈ a'.own → ¬ i = Dd := fun i hi e => by
      rw [e] at hi
      rcases (a'.mem _).1 hi with h | h | h | h
      · rw [HI.out.fb.1] at h; omega
      · rw [HI.out.fb.2.1] at h; omega
      · rw [HI.out.fb.2.2] at h; omega
      · obtain ⟨vs, h4⟩ := HI.out.f.pc
        rcases h4.row.2 with ⟨h5, _⟩ | ⟨gg, cap', cur, h5, _, h6, _⟩
        · rw [h5] at h; cases h
        · rw [h5] at h
          have : gg = Dd := by simpa [Value.ownBlock] using h
          rw [this, hK] at h6
          cases h6
    have tD : Turns W6.heap.size w7 (w7.putObj Dd (.deferred none)) := ⟨some Dd, grownBy_putObj' _ _ _, fun r e => by cases e; exact ⟨hD, _, HK7, rfl⟩⟩
    have wkE := (HI.out.wk.kp k7).turns tD (by omega)
    have frE := (HI.out.f.kp k7 (fun _ _ h => h) (fun _ _ h => h)).turns tD (by rw [HI.out.fb.2.1]; omega) (by rw [HI.out.fb.2.2]; omega)
    refine ⟨_, results_tmp rfl _ _ _, rfl, D', fv1, a', ?_, HO2.out, ?_⟩
    · have := HS2.out.upd wkE HI.out.fb.1 frE
      rw [HTK]
      exact this
    · have o2 := K2.out
      have w0 : Wk D w (g :: a.own) w2 D (g :: a.own) := ⟨o2.mono (fun i _ e => by simp [e]), fun i h => .inl h, fun i h => h, fun i h => .inl h⟩
      refine w0.trans ⟨wkE.k.mono (fun i _ h => List.mem_cons_of_mem _ h), fun i hi => ?_, wkE.d, wkE.e⟩
      rcases List.mem_cons.1 hi with h | h
      · exact .inl (by simp [h])
      · exact (wkE.o i h).elim (fun x => .inl (List.mem_cons_of_mem _ x)) .inr
  case stop =>
    rintro Dd cc pre W hD hpre ⟨rfl, pre0, x, rfl, hl0, D', a', hi⟩ hK
    have htk : (pcs p m).take (lft k0 n0 m) = pre0.map (fun x : Cx p m => x.1) := by
      obtain ⟨rest, hr⟩ := hpre
      rw [List.map_append, List.append_assoc] at hr
      refine (congrArg (List.take (lft k0 n0 m)) hr.symm).trans ?_
      rw [← HLF.out, ← hl0, show pre0.length = (pre0.map (fun x : Cx p m => x.1)).length from (List.length_map _).symm]
      exact List.take_left
    have f0 : W.cell? ⟨w2.heap.size, 0, none⟩ = some (.int .i64 k0) := hi.bf.cell 0
    have f1 : W.cell? ⟨w2.heap.size, 1, none⟩ = some (.int .i64 n0) := hi.bf.cell 1
    have HTK := htk
    have HI : Hid (WtI D w2 a q p m cap lf ao xs w.heap.size w2.heap.size w4.heap.size W6.heap.size k0 n0 (pre0.map (fun x : Cx p m => x.1)) W D' a') := hi
    clear hi htk hpre
    gi_wp2_with fail
    refine ⟨trivial, (callsIn_wide.2 (came_f k0 n0 _)).mono ?_⟩
    rintro e w7 ⟨rfl, b7⟩
    have k7 : Kp (fun _ => False) W w7 := Kp.of_below b7
    have HK7 : w7.heap[Dd]? = some (.deferred (some [])) := (k7.block Dd (Array.getElem?_eq_some_iff.1 hK).1 (fun h => h)).trans hK
    gi_wp2
    refine ⟨by simp, .inl ⟨_, _, rfl, run_takeDeferred HK7, ?_⟩⟩
    have kp := kp_put1 w7 Dd (.deferred none)
    have kE : Kp (fun i => i = Dd) W (w7.putObj Dd (.deferred none)) := (k7.mono (G := fun i => i = Dd) (fun _ _ h => h.elim)).trans kp (fun _ _ h => h)
    have zD : Dd < W.heap.size := (Array.getElem?_eq_some_iff.1 hK).1
    have nown : ∀ i, i ∈ a'.own → ¬ i = Dd := fun i hi e => by
      rw [e] at hi
      rcases (a'.mem _).1 hi with h | h | h | h
      · rw [HI.out.fb.1] at h; omega
      · rw [HI.out.fb.2.1] at h; omega
      · rw [HI.out.fb.2.2] at h; omega
      · obtain ⟨vs, h4⟩ := HI.out.f.pc
        rcases h4.row.2 with ⟨h5, _⟩ | ⟨gg, cap', cur, h5, _, h6, _⟩
        · rw [h5] at h; cases h
        · rw [h5] at h
          have : gg = Dd := by simpa [Value.ownBlock] using h
          rw [this, hK] at h6
          cases h6
    have tD : Turns W6.heap.size w7 (w7.putObj Dd (.deferred none)) := ⟨some Dd, grownBy_putObj' _ _ _, fun r e => by cases e; exact ⟨hD, _, HK7, rfl⟩⟩
    have wkE := (HI.out.wk.kp k7).turns tD (by omega)
    have frE := (HI.out.f.kp k7 (fun _ _ h => h) (fun _ _ h => h)).turns tD (by rw [HI.out.fb.2.1]; omega) (by rw [HI.out.fb.2.2]; omega)
    refine ⟨_, results_tmp rfl _ _ _, rfl, D', fv1, a', ?_, HO2.out, ?_⟩
    · have := HS2.out.upd wkE HI.out.fb.1 frE
      rw [HTK]
      exact this
    · have o2 := K2.out
      have w0 : Wk D w (g :: a.own) w2 D (g :: a.own) := ⟨o2.mono (fun i _ e => by simp [e]), fun i h => .inl h, fun i h => h, fun i h => .inl h⟩
      refine w0.trans ⟨wkE.k.mono (fun i _ h => List.mem_cons_of_mem _ h), fun i hi => ?_, wkE.d, wkE.e⟩
      rcases List.mem_cons.1 hi with h | h
      · exact .inl (by simp [h])
      · exact (wkE.o i h).elim (fun x => .inl (List.mem_cons_of_mem _ x)) .inr
end Go.Proofs.YtnccklbnncaeoaaGreat
/- Picks: are any below 0? taken one by one; a map is cloned. -/
namespace Go.Proofs.YtnccklbnncaeoaaGreat
open Go.RowKit

theorem getD_mem (zs : List Int) (k : Nat) (h : k < zs.length) : zs.getD k 0 ∈ zs := by
  rw [List.getD_eq_getElem?_getD, List.getElem?_eq_getElem h]
  exact List.getElem_mem h
set_option maxRecDepth 100000 in
set_option maxHeartbeats 400000 in
theorem neg_any (a : Int) (w : World) : Calls Tryz.prog 124 #[.int .i64 a] w fun e w' => e = .returned (.bool (decide (a < 0))) ∧ w = w' := by
  go_enter Tryz.func124, Tryz.ntmps124
  go_wp2
  go_ret
  exact ⟨rfl, rfl⟩
set_option maxRecDepth 100000 in
set_option maxHeartbeats 1000000 in
theorem indexf_any (ao : Option Addr) (zs : List Int) (n cap : Nat) (w : World) (hn : n = zs.length) (hb : n ≤ 1000000000000) (hS : Src .i64 w ao zs) :
    Calls Tryz.prog 156 #[.slice ao n cap, .func (.func 124) #[] #[]] w fun e w' => ∃ k : Int, e = .returned (.int .i64 k) ∧ (0 ≤ k ↔ ∃ z ∈ zs, z < 0) ∧ w = w' := by
  have HN : Hid (n = zs.length) := hn
  have HS : Hid (Src .i64 w ao zs) := hS
  clear hn hS
  go_enter Tryz.func156, Tryz.ntmps156
  go_wp2
  go_loop [8] (fun i => ∃ k : Nat, k ≤ n ∧ i = .int .i64 k ∧ ∀ j, j < k → ¬ zs.getD j 0 < 0) (fun i => n - (intOf i).toNat)
  case atStart => exact ⟨0, Nat.zero_le _, rfl, fun j hj => by omega⟩
  case round =>
    obtain ⟨k, hk, rfl, hj⟩ := hrel
    have HJ : Hid (∀ j, j < k → ¬ zs.getD j 0 < 0) := hj
    clear hj
    by_cases hlt : k < n
    · obtain ⟨b, off, rfl, hc⟩ := HS.out (by have := HN.out; omega)
      have hck := hc k (by have := HN.out; omega)
      have hmem : zs.getD k 0 ∈ zs := getD_mem zs k (by have := HN.out; omega)
      obtain ⟨z, hz⟩ : ∃ z, z = zs.getD k 0 := ⟨_, rfl⟩
      rw [← hz] at hck hmem
      have HZ : Hid (z = zs.getD k 0) := hz
      have HMEM : Hid (z ∈ zs) := hmem
      clear hz hmem hc
      by_cases hneg : z < 0
      · have hd : decide (z < 0) = true := by simpa using hneg
        go_wp2_with (first | (go_at_call 124; refine (neg_any _ _).mono ?_; rintro e w' ⟨rfl, rfl⟩))
        go_ret
        exact ⟨(k : Int), rfl, ⟨fun _ => ⟨z, HMEM.out, hneg⟩, fun _ => by omega⟩, rfl⟩
      · have hd : decide (z < 0) = false := by simpa using hneg
        go_wp2_with (first | (go_at_call 124; refine (neg_any _ _).mono ?_; rintro e w' ⟨rfl, rfl⟩))
        go_round
        case rel => exact ⟨k + 1, by omega, by go_num, fun j hj => by
          by_cases e : j = k
          · rw [e, ← HZ.out]; omega
          · have := HJ.out j (by omega); omega⟩
        case measure => simp [intOf]; omega
    · obtain rfl : k = n := by omega
      go_wp2
      go_ret
      refine ⟨-1, rfl, ⟨fun h => by omega, fun ⟨z, hz, h⟩ => ?_⟩, rfl⟩
      obtain ⟨j, hj, rfl⟩ := List.getElem_of_mem hz
      have := HJ.out j (by rw [HN.out]; exact hj)
      simp [List.getD, hj] at this
      omega
set_option maxRecDepth 100000 in
set_option maxHeartbeats 1000000 in
theorem containsf_any (ao : Option Addr) (zs : List Int) (n cap : Nat) (w : World) (hn : n = zs.length) (hb : n ≤ 1000000000000) (hS : Src .i64 w ao zs) :
    Calls Tryz.prog 123 #[.slice ao n cap, .func (.func 124) #[] #[]] w fun e w' => e = .returned (.bool (zs.any (fun z => decide (z < 0)))) ∧ w = w' := by
  have H := indexf_any ao zs n cap w hn hb hS
  have HI : Hid (Calls Tryz.prog 156 #[.slice ao n cap, .func (.func 124) #[] #[]] w fun e w' => ∃ k : Int, e = .returned (.int .i64 k) ∧ (0 ≤ k ↔ ∃ z ∈ zs, z < 0) ∧ w = w') := H
  clear H hn hS
  go_enter Tryz.func123, Tryz.ntmps123
  go_wp2_with (first | (go_at_call 156; refine HI.out.mono ?_; rintro e w' ⟨k, rfl, hk, rfl⟩; have HK : Hid (0 ≤ k ↔ ∃ z ∈ zs, z < 0) := hk; clear hk))
  go_ret
  have hk := HK.out
  refine ⟨ret_bool ?_, rfl⟩
  by_cases h : 0 ≤ k
  · obtain ⟨z, hz, hz2⟩ := hk.1 h
    have : zs.any (fun z => decide (z < 0)) = true := List.any_eq_true.2 ⟨z, hz, by simpa using hz2⟩
    rw [this]; exact decide_eq_true h
  · have : zs.any (fun z => decide (z < 0)) = false := by
      rw [List.any_eq_false]
      intro z hz
      simp
      by_cases h2 : z < 0
      · exact absurd (hk.2 ⟨z, hz, h2⟩) h
      · omega
    rw [this]; exact decide_eq_false h
set_option maxRecDepth 100000 in
set_option maxHeartbeats 400000 in
theorem picker_any (ao : Option Addr) (n cap : Nat) (w : World) : Calls Tryz.prog 125 #[.slice ao n cap] w fun e w' => e = .returned (.func (.func 157) #[] #[.pointer (some ⟨w.heap.size + 1, 0, none⟩), .pointer (some ⟨w.heap.size, 0, none⟩)]) ∧ w' = (w.alloc (.cells #[.slice ao n cap] 52)).alloc (.cells #[.int .i64 0] 3) := by
  go_enter Tryz.func125, Tryz.ntmps125
  go_wp2
  go_ret
  exact ⟨rfl, rfl⟩
/-- The pick of number k. -/
def pck (zs : List Int) (k : Nat) : Bool := zs.getD k 0 % 2 == 1
set_option maxRecDepth 100000 in
set_option maxHeartbeats 1000000 in
theorem pick_any (Bn Bp : Nat) (ao : Option Addr) (zs : List Int) (n cap k : Nat) (w : World) (hne : Bn ≠ Bp) (hn : n = zs.length) (hb : n ≤ 1000000000000) (hz : ∀ z ∈ zs, 0 ≤ z) (hk : k ≤ n) (s1 : St 3 w Bn #[.int .i64 k]) (s2 : St 52 w Bp #[.slice ao n cap]) (hS : Src .i64 w ao zs) (hno : 0 < n → ∀ b off, ao = some ⟨b, off, none⟩ → b ≠ Bn) :
    Calls Tryz.prog 157 #[.pointer (some ⟨Bn, 0, none⟩), .pointer (some ⟨Bp, 0, none⟩)] w fun e w' => e = .returned (.bool (if k < n then pck zs k else false)) ∧ St 3 w' Bn #[.int .i64 ((if k < n then k + 1 else k : Nat) : Int)] ∧ Kp (fun i => i = Bn) w w' := by
  have c1 : w.cell? ⟨Bn, 0, none⟩ = some (.int .i64 k) := s1.cell 0
  have c2 : w.cell? ⟨Bp, 0, none⟩ = some (.slice ao n cap) := s2.cell 0
  have f1 := s1.frozen 0
  by_cases hlt : k < n
  · rw [if_pos hlt, if_pos hlt]
    have hkb : ((k : Int) == (n : Int)) = false := beq_eq_false_iff_ne.2 (by omega)
    obtain ⟨b, off, rfl, hc⟩ := hS (by omega)
    have hck := hc k (by omega)
    obtain ⟨z, hzz⟩ : ∃ z, z = zs.getD k 0 := ⟨_, rfl⟩
    have hz0 : 0 ≤ z := by
      rw [hzz]
      exact hz _ (getD_mem zs k (by omega))
    rw [← hzz] at hck
    have hbn := hno (by omega) b off rfl
    have x2 : ∀ v, (w.setCell ⟨Bn, 0, none⟩ v).cell? ⟨Bp, 0, none⟩ = some (.slice (some ⟨b, off, none⟩) n cap) := fun v => kp_cell (kp_setCell w Bn 0 v (fun i => i = Bn) rfl) c2 (fun e => hne e.symm)
    have x3 : ∀ v, (w.setCell ⟨Bn, 0, none⟩ v).cell? ⟨b, off + k, none⟩ = some (.int .i64 z) := fun v => kp_cell (kp_setCell w Bn 0 v (fun i => i = Bn) rfl) hck hbn
    have x1 : ∀ v, (w.setCell ⟨Bn, 0, none⟩ v).cell? ⟨Bn, 0, none⟩ = some v := fun v => World.cell?_setCell_same' _ _ _ (by rw [c1]; rfl)
    have HS1 : Hid (St 3 w Bn #[.int .i64 k]) := s1
    have HZ : Hid (pck zs k = (z % 2 == 1)) := by show _ = _; unfold pck; rw [← hzz]
    have hadd : (k : Int) + 1 - 1 = (k : Int) := by omega
    clear hzz hc s1 s2 hS hz hno hn
    rw [HZ.out]
    go_enter Tryz.func157, Tryz.ntmps157
    go_wp2
    go_ret
    exact ⟨rfl, HS1.out.set 0 _, kp_setCell _ _ _ _ _ rfl⟩
  · obtain rfl : k = n := by omega
    rw [if_neg hlt, if_neg hlt]
    have HS1 : Hid (St 3 w Bn #[.int .i64 k]) := s1
    have hkb : ((k : Int) == (k : Int)) = true := beq_self_eq_true _
    clear s1 s2 hS hno hz
    go_enter Tryz.func157, Tryz.ntmps157
    go_wp2
    go_ret
    exact ⟨rfl, HS1.out, Kp.refl _ _⟩
theorem run_clone (P : Program) (w : World) (t : TypeId) {r : Nat} {es : Array MapEntry} {c : Nat} (hb : w.heap[r]? = some (.map es c)) : (Extern.MapsClone.clone #[.iface t (.map (some r))]).run P w = .ok (.iface t (.map (some w.heap.size))) (w.alloc (.map es c)) := by
  have e : Extern.MapsClone.clone #[.iface t (.map (some r))] = (getObj r >>= fun o => match o with | .map es c => (newObj (.map es c) >>= fun n => pure (.iface t (.map (some n)))) | _ => stuck "maps.clone: a map expected") := rfl
  rw [e]
  simp [MapKept.run_getObj_map hb]
set_option maxRecDepth 100000 in
set_option maxHeartbeats 1000000 in
/-- maps.Clone of sectors. -/
theorem clone_any (m c : Nat) (es : List (Int × Value × Nat)) (w : World) (hm : Mp (Value.int .i64) w m es c) : Calls Tryz.prog 160 #[.map (some m)] w fun e w' => e = .returned (.map (some w.heap.size)) ∧ Mp (Value.int .i64) w' w.heap.size es c ∧ w' = w.alloc (.map (es.map (ent (Value.int .i64))).toArray c) := by
  have he : ∀ w : World, (binOp .eql 161 (.map (some m)) (.map none)).run Tryz.prog w = .ok (.bool false) w := fun _ => rfl
  have HM : Hid (Mp (Value.int .i64) w m es c) := hm
  have hta : ∀ (w : World) (b : Nat), (Instr.typeAssert (.iface 161 (.map (some b))) 20 161 false).run Tryz.prog w = .ok (.map (some b)) w := fun _ _ => rfl
  clear hm
  go_enter Tryz.func160, Tryz.ntmps160
  go_wp2
  rw [run_callFunc_extern Tryz.func188 (by kernel_rfl) (by kernel_rfl) (by kernel_rfl) (e := Extern.MapsClone.clone) (by kernel_rfl), run_clone Tryz.prog w 161 HM.out.1]
  simp only [Result.andThen]
  rw [Oper.upon_value]
  go_wp2
  go_ret
  exact ⟨rfl, ⟨(MapKept.heap_alloc w _).1, HM.out.2⟩, rfl⟩
end Go.Proofs.YtnccklbnncaeoaaGreat
/- What a crash leaves of a file. -/
namespace Go.Proofs.YtnccklbnncaeoaaGreat
open Go.RowKit

def pkb (zs : List Int) (k : Nat) : Bool := if k < zs.length then pck zs k else false
/-- The pieces that last, the first pick being that of number k. -/
def pks (zs : List Int) : Nat → List (Nat × List Int) → List (Nat × List Int)
  | _, [] => []
  | k, p :: ps => if pkb zs k then p :: pks zs (k + 1) ps else pks zs (k + 1) ps
theorem pks_snoc (zs : List Int) (k : Nat) (ps : List (Nat × List Int)) (p : Nat × List Int) : pks zs k (ps ++ [p]) = pks zs k ps ++ (if pkb zs (k + ps.length) then [p] else []) := by
  induction ps generalizing k with
  | nil => simp only [List.nil_append, pks, List.length_nil, Nat.add_zero]
  | cons q ps ih =>
    simp only [List.cons_append, pks, List.length_cons]
    rw [ih (k + 1), show k + 1 + ps.length = k + (ps.length + 1) by omega]
    by_cases h : pkb zs k = true
    · rw [if_pos h, if_pos h]; rfl
    · rw [if_neg h, if_neg h]
theorem pks_sub (zs : List Int) (k : Nat) (ps : List (Nat × List Int)) : ∀ p ∈ pks zs k ps, p ∈ ps := by
  induction ps generalizing k with
  | nil => intro p h; simp [pks] at h
  | cons q ps ih =>
    intro p h
    simp only [pks] at h
    by_cases hb : pkb zs k = true
    · rw [if_pos hb] at h
      rcases List.mem_cons.1 h with rfl | h
      · simp
      · exact List.mem_cons_of_mem _ (ih _ p h)
    · rw [if_neg hb] at h
      exact List.mem_cons_of_mem _ (ih _ p h)
theorem ov_high {f : Nat → Int} {p : Nat × List Int} {sz i : Nat} (hp : p.1 + p.2.length ≤ sz) (h : sz ≤ i) : ov f p i = f i := by
  unfold ov
  rw [if_neg (by omega)]
/-- A piece has been put over what lasts of a file without pieces. -/
theorem fr_lastp {D D' : Nat → Prop} {w W : World} {a : Fa} {sz : Nat} {L : Nat → Int} {p : Nat × List Int} {es : List (Int × Value × Nat)} {c : Nat} (h : Fr D w a sz L []) (hm : Sm D' W a.lm (ov L p) zero es c) (k : Kp (fun i => i = a.lm) w W) (hd : ∀ i, D i → D' i) (hn : ∀ i, D' i → i ∉ a.own) (hb : ∀ i, D' i → i < W.heap.size) (hp : p.1 + p.2.length ≤ sz) (he : ∃ c, Mp (Value.int .i64) w a.om [] c) : Fr D' W a sz (ov L p) [] := by
  obtain ⟨vs, h3⟩ := h.pc
  obtain ⟨c0, hc⟩ := he
  have hlm := h.lm_ne
  have hne := h.ne
  have nm : ∀ i, D i → ¬ i = a.lm := fun i hi e => h.nd i hi (by rw [e, Fa.mem]; exact .inr (.inl rfl))
  refine ⟨h.st.kp k (fun e => hlm.1 e.symm), ⟨es, c, hm⟩, ⟨[], c0, ⟨kp_mp hc k (fun e => hne e.symm), (fun _ h => by cases h), (fun _ _ h => by cases h), fun _ _ => rfl⟩, fun p hp => by cases hp⟩, ⟨vs, (h3.kp k (fun b hb e => (h.fb_ne hb).2.1 e) nm).mono (fun i _ => hd i)⟩, hne, hn, hb, fun i hi => ?_, (fun p hp => by cases hp), h.sb, h.nb⟩
  rw [ov_high hp hi]
  exact h.lz i hi
theorem fr_left {D : Nat → Prop} {w W : World} {fb lm om : Nat} {sz : Nat} {L : Nat → Int} {el : List (Int × Value × Nat)} {cl m0 c0 : Nat} (hl : Sm D w m0 L zero el cl) (k : Kp (fun _ => False) w W) (hs : St 164 W fb #[.int .i64 sz, .map (some lm), .map (some om), .slice none 0 0]) (h1 : Mp (Value.int .i64) W lm el cl) (h2 : Mp (Value.int .i64) W om [] c0) (hne : lm ≠ om) (hd : ∀ i, D i → i < w.heap.size) (hn : w.heap.size ≤ fb ∧ w.heap.size ≤ lm ∧ w.heap.size ≤ om) (hz : ∀ i, sz ≤ i → L i = 0) (hsb : sz ≤ 268435456) : Fr D W ⟨fb, lm, om, .slice none 0 0⟩ sz L [] := by
  refine ⟨hs, ⟨el, cl, h1, hl.ks, fun j u hu => (hl.so j u hu).kp k (fun _ _ h => h), hl.no⟩, ⟨[], c0, ⟨h2, (fun _ h => by cases h), (fun _ _ h => by cases h), fun _ _ => rfl⟩, fun p hp => by cases hp⟩, ⟨[], rfl, (fun i hi => by simp at hi), rfl, .inl ⟨rfl, rfl⟩⟩, hne, fun i hi hm => ?_, fun i hi => Nat.lt_of_lt_of_le (hd i hi) k.size, hz, (fun p hp => by cases hp), hsb, by simp⟩
  have := hd i hi
  rcases (Fa.mem _ i).1 hm with h | h | h | h
  · dsimp only at h; omega
  · dsimp only at h; omega
  · dsimp only at h; omega
  · cases h
theorem pkb_min (zs : List Int) (K n : Nat) (hn : n = zs.length) : (if min K n < n then pck zs (min K n) else false) = pkb zs K := by
  unfold pkb
  by_cases h : K < n
  · rw [if_pos (by omega), if_pos (by omega), show min K n = K by omega]
  · rw [if_neg (by omega), if_neg (by omega)]
/-- What the loop of crashed keeps. -/
structure CdI (D : Nat → Prop) (w : World) (sz : Nat) (L : Nat → Int) (ps : List (Nat × List Int)) (zs : List Int) (K n Bn : Nat) (k : Nat) (W : World) (D' : Nat → Prop) (a' : Fa) : Prop where
  f : Fr D' W a' sz (ovs L (pks zs K (ps.take k))) []
  e : ∃ c, Mp (Value.int .i64) W a'.om [] c
  o : ∀ i, i ∈ a'.own → w.heap.size ≤ i
  d : ∀ i, D i → D' i
  d2 : ∀ i, D' i → D i ∨ w.heap.size ≤ i
  b : St 3 W Bn #[.int .i64 ((min (K + k) n : Nat) : Int)]
  kp : Kp (fun i => i = Bn) w W
theorem getD_mem2 (ps : List (Nat × List Int)) (k : Nat) (h : k < ps.length) : ps.getD k (0, []) ∈ ps := by
  rw [List.getD_eq_getElem?_getD, List.getElem?_eq_getElem h]
  exact List.getElem_mem h
theorem Pr.cells {D : Nat → Prop} {w : World} {pv : Value} {ps : List (Nat × List Int)} {vs : List Value} (h : Pr D w pv ps vs) (hp : 0 < ps.length) : ∃ g off cap, pv = .slice (some ⟨g, off, none⟩) ps.length cap ∧ g < w.heap.size ∧ pv.ownBlock = some g ∧ ∀ i, i < ps.length → w.cell? ⟨g, off + i * 2, none⟩ = some (.int .i64 (ps.getD i (0, [])).1) ∧ w.cell? ⟨g, off + i * 2 + 1, none⟩ = some (vs.getD i undef) := by
  rcases h.row.2 with ⟨_, h1⟩ | ⟨g, cap, cur, rfl, h1, h2, h3, h4, h5, h6⟩
  · omega
  · refine ⟨g, 0, cap, rfl, (Array.getElem?_eq_some_iff.1 h2).1, rfl, fun i hi => ?_⟩
    obtain ⟨e1, e2⟩ := pcl_get ps vs h.len i hi
    rw [← h6, List.getElem?_take, if_pos (by omega)] at e1
    rw [← h6, List.getElem?_take, if_pos (by omega)] at e2
    refine ⟨(cell_of_row w g _ _ 215 _ h2).trans ?_, (cell_of_row w g _ _ 215 _ h2).trans ?_⟩
    · rw [Nat.zero_add]; simpa using e1
    · rw [Nat.zero_add]; simpa using e2
theorem pks_step (zs : List Int) (K : Nat) (ps : List (Nat × List Int)) (k : Nat) (h : k < ps.length) : pks zs K (ps.take (k + 1)) = pks zs K (ps.take k) ++ (if pkb zs (K + k) then [ps.getD k (0, [])] else []) := by
  rw [List.take_add_one, List.getElem?_eq_getElem h]
  show pks zs K (ps.take k ++ [ps[k]]) = _
  rw [pks_snoc, List.length_take, Nat.min_eq_left (by omega), List.getD_eq_getElem?_getD, List.getElem?_eq_getElem h]
  rfl
theorem nxt_min (K k n : Nat) : (if min (K + k) n < n then min (K + k) n + 1 else min (K + k) n) = min (K + (k + 1)) n := by
  split <;> omega
theorem CdI.fk {D : Nat → Prop} {w : World} {sz : Nat} {L : Nat → Int} {ps : List (Nat × List Int)} {zs : List Int} {K n Bn k : Nat} {W W' : World} {D' : Nat → Prop} {a' : Fa} (h : CdI D w sz L ps zs K n Bn k W D' a') (hl : Bn < w.heap.size) (hD : ¬ D Bn) (kk : Kp (fun i => i = Bn) W W') : Fr D' W' a' sz (ovs L (pks zs K (ps.take k))) [] ∧ (∃ c, Mp (Value.int .i64) W' a'.om [] c) := by
  have hno : ∀ i, i ∈ a'.own → ¬ i = Bn := fun i hi e => by have := h.o i hi; omega
  refine ⟨h.f.kp kk hno (fun i hi e => ?_), ?_⟩
  · rcases h.d2 i hi with h1 | h1
    · exact hD (e ▸ h1)
    · omega
  · obtain ⟨c, hc⟩ := h.e
    exact ⟨c, kp_mp hc kk (hno _ ((Fa.mem _ _).2 (.inr (.inr (.inl rfl)))))⟩
theorem CdI.skip {D : Nat → Prop} {w : World} {sz : Nat} {L : Nat → Int} {ps : List (Nat × List Int)} {zs : List Int} {K n Bn k : Nat} {W W' : World} {D' : Nat → Prop} {a' : Fa} (h : CdI D w sz L ps zs K n Bn k W D' a') (hl : Bn < w.heap.size) (hD : ¬ D Bn) (kk : Kp (fun i => i = Bn) W W') (hb : St 3 W' Bn #[.int .i64 ((if min (K + k) n < n then min (K + k) n + 1 else min (K + k) n : Nat) : Int)]) (hk : k < ps.length) (hp : pkb zs (K + k) = false) : CdI D w sz L ps zs K n Bn (k + 1) W' D' a' := by
  obtain ⟨h1, h2⟩ := h.fk hl hD kk
  refine ⟨?_, h2, h.o, h.d, h.d2, by rw [← nxt_min]; exact hb, h.kp.trans kk (fun _ _ h => h)⟩
  rw [pks_step zs K ps k hk, hp, if_neg (by simp), List.append_nil]
  exact h1
theorem CdI.take {D : Nat → Prop} {w : World} {sz : Nat} {L : Nat → Int} {ps : List (Nat × List Int)} {zs : List Int} {K n Bn k : Nat} {W W' X w' : World} {D' : Nat → Prop} {a' : Fa} {p : Nat × List Int} {es : List (Int × Value × Nat)} {c : Nat} (h : CdI D w sz L ps zs K n Bn k W D' a') (hl : Bn < w.heap.size) (hD : ¬ D Bn) (kk : Kp (fun i => i = Bn) W W') (kx : Kp (fun _ => False) W' X) (hb : St 3 W' Bn #[.int .i64 ((if min (K + k) n < n then min (K + k) n + 1 else min (K + k) n : Nat) : Int)]) (hk : k < ps.length) (hp : pkb zs (K + k) = true) (hpe : p = ps.getD k (0, [])) (hpb : p.1 + p.2.length ≤ sz)
    (hm : Sm (fun i => D' i ∨ (X.heap.size ≤ i ∧ i < w'.heap.size)) w' a'.lm (ov (ovs L (pks zs K (ps.take k))) p) zero es c) (km : Kp (fun i => i = a'.lm) X w') : CdI D w sz L ps zs K n Bn (k + 1) w' (fun i => D' i ∨ (X.heap.size ≤ i ∧ i < w'.heap.size)) a' := by
  have k2 : Kp (fun i => i = Bn) W X := kk.trans kx (fun _ _ h => h.elim)
  obtain ⟨h1, c0, h2⟩ := h.fk hl hD k2
  have hlm : w.heap.size ≤ a'.lm := h.o _ ((Fa.mem _ _).2 (.inr (.inl rfl)))
  have hsz : w.heap.size ≤ X.heap.size := Nat.le_trans h.kp.size k2.size
  refine ⟨?_, ⟨c0, kp_mp h2 km (fun e => h.f.ne e.symm)⟩, h.o, fun i hi => .inl (h.d i hi), fun i hi => ?_, ?_, (h.kp.trans k2 (fun _ _ h => h)).trans km (fun i hi e => by omega)⟩
  · rw [pks_step zs K ps k hk, hp, if_pos rfl, ← hpe, ovs_snoc]
    refine fr_lastp h1 hm km (fun i hi => .inl hi) (fun i hi hn => ?_) (fun i hi => ?_) hpb ⟨c0, h2⟩
    · rcases hi with hi | hi
      · exact h1.nd i hi hn
      · have := h1.lt i hn; omega
    · rcases hi with hi | hi
      · exact Nat.lt_of_lt_of_le (h1.db i hi) km.size
      · exact hi.2
  · rcases hi with hi | hi
    · exact h.d2 i hi
    · right; omega
  · rw [← nxt_min]
    exact (hb.kp kx (fun h => h)).kp km (fun e => by omega)
end Go.Proofs.YtnccklbnncaeoaaGreat
