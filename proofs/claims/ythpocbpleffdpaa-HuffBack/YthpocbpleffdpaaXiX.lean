/- pairs: a pile's trees two by two. -/
import Derived.Test.YthpocbpleffdpaaXdX
namespace Go.Proofs.Ythpocbpleffdpaa
open Go.RowKit

set_option maxHeartbeats 2000000 in
set_option maxRecDepth 100000 in
theorem plain_ok (w : World) (ao : Option Addr) (cap : Nat) (zs : List Int) (hl : zs.length ≤ 320) (hz : ∀ z ∈ zs, 0 ≤ z ∧ z < 4294967296) (hs : Src .u32 w ao zs) :
    Calls Try.prog 23 #[.slice ao zs.length cap] w fun e w' => e = .returned (.tuple #[.slice (some ⟨w.heap.size, 0, none⟩) zs.length zs.length, .int .i64 0]) ∧ Rw .i64 3 w' w.heap.size (hzl zs) ∧ Kp (fun _ => False) w w' := by
  have HQ := hid (plain_any w ao cap zs (by omega) hz hs)
  clear hs hz
  go_enter Try.func23, Try.ntmps23
  go_wp2_with (first
    | (go_at_call 50; refine HQ.out.mono ?_; rintro _ w1 ⟨rfl, R1, K1⟩))
  go_ret2
  exact ⟨rfl, R1, K1⟩
set_option maxHeartbeats 2000000 in
theorem plain_long (w : World) (ao : Option Addr) (cap n : Nat) (hl : 320 < n) (hn : n ≤ 4000000000000000000) :
    Calls Try.prog 23 #[.slice ao n cap] w fun e w' => e = .returned (.tuple #[.slice none 0 0, .int .i64 3]) ∧ w' = w := by
  go_enter Try.func23, Try.ntmps23
  go_wp2_with fail
  go_ret2
  exact ⟨rfl, rfl⟩

/-- A tree's symbols, each counted into Z. -/
def tly (F : List Nd) : Nat → Nat → List Int → List Int
  | 0, _, Z => Z
  | n + 1, k, Z => match (F.getD k nd0).2.2 with
    | none => Z.set (F.getD k nd0).2.1 (Z.getD (F.getD k nd0).2.1 0 + 1)
    | some p => tly F n p.2 (tly F n p.1 Z)
/-- How many symbols a tree has. -/
def lvc (F : List Nd) : Nat → Nat → Nat
  | 0, _ => 0
  | n + 1, k => match (F.getD k nd0).2.2 with
    | none => 1
    | some p => lvc F n p.1 + lvc F n p.2
theorem tly_len (F : List Nd) : ∀ n k Z, (tly F n k Z).length = Z.length := by
  intro n
  induction n with
  | zero => intro k Z; rfl
  | succ n ih =>
    intro k Z
    unfold tly
    split
    · simp
    · rw [ih, ih]
theorem tly_le (F : List Nd) : ∀ n k Z j, Z.getD j 0 ≤ (tly F n k Z).getD j 0 ∧ (tly F n k Z).getD j 0 ≤ Z.getD j 0 + lvc F n k := by
  intro n
  induction n with
  | zero => intro k Z j; simp [tly, lvc]
  | succ n ih =>
    intro k Z j
    unfold tly lvc
    split
    · simp only [List.getD_eq_getElem?_getD, List.getElem?_set]
      split
      · rename_i e
        split
        · subst e; simp; omega
        · rename_i h; subst e; rw [List.getElem?_eq_none (by omega)]; simp
      · omega
    · rename_i p _
      have h1 := ih p.1 Z j
      have h2 := ih p.2 (tly F n p.1 Z) j
      omega

set_option maxHeartbeats 4000000 in
set_option maxRecDepth 100000 in
theorem tally_any (F : List Nd) (bs : List Nat) (Fb G : Nat) : ∀ (n k : Nat) (Z : List Int) (w : World), k < n → k < F.length → (∀ j, 0 ≤ Z.getD j 0 ∧ Z.getD j 0 + lvc F n k ≤ 4611686018427387904) → Fo w Fb F bs → Rw .i64 3 w G Z → (∀ j, j < F.length → (F.getD j nd0).2.2 = none → (F.getD j nd0).2.1 < Z.length) → Z.length ≤ 1000000000 →
    Calls Try.prog 79 #[ptr (bs.getD k 0), .slice (some ⟨G, 0, none⟩) Z.length Z.length] w fun e w' => e = .returned (.tuple #[]) ∧ Rw .i64 3 w' G (tly F n k Z) ∧ Kp (fun x => x = G) w w' := by
  intro n
  induction n with
  | zero => intro k Z w h; omega
  | succ n ih =>
    intro k Z w hkn hk hd hf hr hsy hZ
    have hn := hf.nd k hk
    have hGF : ¬ Fb = G := fun e => apart_types (by decide) (e ▸ hf.st) hr.st
    have hGb : ∀ b ∈ bs, ¬ b = G := fun b hb e => by
      obtain ⟨j, hj, rfl⟩ := hf.mem hb
      exact apart_types (by decide) (e ▸ hf.nd j hj) hr.st
    have hsk : tly F (n + 1) k Z = match (F.getD k nd0).2.2 with | none => Z.set (F.getD k nd0).2.1 (Z.getD (F.getD k nd0).2.1 0 + 1) | some p => tly F n p.2 (tly F n p.1 Z) := by rw [tly]
    have hlc : lvc F (n + 1) k = match (F.getD k nd0).2.2 with | none => 1 | some p => lvc F n p.1 + lvc F n p.2 := by rw [lvc]
    rw [hsk]
    rw [hlc] at hd
    have hkid := hf.kid k
    have hsy1 := hsy k hk
    generalize hx : F.getD k nd0 = x at hn hkid hsy1 hd ⊢
    obtain ⟨co, sy, kd⟩ := x
    cases kd with
    | none =>
      have hs := hsy1 rfl
      have c2 := hn.cell 2
      have c3 := hn.cell 3
      have cz := hr.cell sy hs
      have fz := hr.frozen sy
      have hd1 := hd sy
      simp [pto] at c2 c3 hs cz hd1
      have HR := hid hr
      clear hn hkid hsy1 hf hr hsk hlc ih hx hsy hd
      unfold ptr
      simp only [List.getD_eq_getElem?_getD] at *
      generalize bs[k]?.getD 0 = a at *
      generalize Z[sy]?.getD 0 = zz at *
      go_enter Try.func79, Try.ntmps79
      go_wp2_with fail
      refine bodyPost_ret (results_none rfl _ _ _) rfl ?_
      exact ⟨rfl, HR.out.set sy _, kp_setCell w G sy _ (fun x => x = G) rfl⟩
    | some p =>
      obtain ⟨p1, p2⟩ := p
      have hd2 : ∀ j, 0 ≤ Z.getD j 0 ∧ Z.getD j 0 + ((lvc F n p1 + lvc F n p2 : Nat) : Int) ≤ 4611686018427387904 := hd
      obtain ⟨q1, q2⟩ := hkid (p1, p2) hk rfl
      have c3 := hn.cell 3
      have c4 := hn.cell 4
      simp [pto] at c3 c4
      have H1 : Hid (Calls Try.prog 79 #[.pointer (some ⟨bs.getD p1 0, 0, none⟩), .slice (some ⟨G, 0, none⟩) Z.length Z.length] w fun e w' => e = .returned (.tuple #[]) ∧ Rw .i64 3 w' G (tly F n p1 Z) ∧ Kp (fun x => x = G) w w') := ih p1 Z w (by omega) (by omega) (fun j => by have := hd2 j; omega) hf hr hsy hZ
      have H2 : Hid (∀ w1, Rw .i64 3 w1 G (tly F n p1 Z) → Kp (fun x => x = G) w w1 → Calls Try.prog 79 #[.pointer (some ⟨bs.getD p2 0, 0, none⟩), .slice (some ⟨G, 0, none⟩) Z.length Z.length] w1 fun e w' => e = .returned (.tuple #[]) ∧ Rw .i64 3 w' G (tly F n p2 (tly F n p1 Z)) ∧ Kp (fun x => x = G) w1 w') := by
        intro w1 r1 k1
        have := ih p2 (tly F n p1 Z) w1 (by omega) (by omega) (fun j => by have h1 := hd2 j; have h2 := tly_le F n p1 Z j; omega) (hf.kp k1 hGF hGb) r1 (by rw [tly_len]; exact hsy) (by rw [tly_len]; exact hZ)
        rw [tly_len] at this
        exact this
      have HC : Hid (∀ w1, Kp (fun x => x = G) w w1 → w1.cell? ⟨bs.getD k 0, 4, none⟩ = some (.pointer (some ⟨bs.getD p2 0, 0, none⟩))) := fun w1 k1 => by
        have := (hn.kp k1 (hGb _ (by have := hf.len; simp [List.getD, show k < bs.length by omega]))).cell 4
        simpa [pto] using this
      simp only [List.getD_eq_getElem?_getD] at *
      clear hn hkid hsy1 hf hr hsk hlc ih hx hsy hd hd2
      unfold ptr
      generalize bs[k]?.getD 0 = a at *
      generalize bs[p1]?.getD 0 = b1 at *
      generalize bs[p2]?.getD 0 = b2 at *
      go_enter Try.func79, Try.ntmps79
      go_wp2_with (first
        | (go_at_call 79; refine H1.out.mono ?_; rintro _ w1 ⟨rfl, R1, K1⟩; have d4 := HC.out w1 K1; have HB := hid (H2.out w1 R1 K1); clear H1)
        | (go_at_call 79; refine HB.out.mono ?_; rintro _ w2 ⟨rfl, R2, K2⟩))
      go_end0
      exact ⟨rfl, R2, K1.trans K2 (fun _ _ h => h)⟩
end Go.Proofs.Ythpocbpleffdpaa

namespace Go.Proofs.Ythpocbpleffdpaa
open Go.RowKit

/-- The two least as one, beside the pile. -/
def pr1 (S : List Nd × List Nat × List Nat) : List Nd × List Nat × List Nat :=
  (S.1 ++ [jnd S.1 (mn S.1 S.2.1) (mn S.1 (S.2.1.erase (mn S.1 S.2.1)))], (S.2.1.erase (mn S.1 S.2.1)).erase (mn S.1 (S.2.1.erase (mn S.1 S.2.1))), S.2.2 ++ [S.1.length])
def prs : Nat → List Nd × List Nat × List Nat → List Nd × List Nat × List Nat
  | 0, S => S
  | n + 1, S => prs n (pr1 S)
/-- What pairs' loop holds. -/
structure Pj (w wr : World) (base Fb B : Nat) (v0 v v5 : Value) (F : List Nd) (bs K L N : List Nat) (T : List Nd × List Nat × List Nat) (b0 : List Nat) : Prop where
  pre : b0 <+: bs
  gp : Gp wr base Fb B v F bs K L
  own : wr.ownsRow w.heap.size 116 1 v5 N.length ((N.map fun k => bs.getD k 0).map ptr)
  kp : Kp (fun k => k = Fb ∨ k = B ∨ v0.ownBlock = some k) w wr
  same : v.ownBlock = v0.ownBlock
  low : Fb < w.heap.size ∧ B < w.heap.size ∧ ∀ g, v0.ownBlock = some g → g < w.heap.size
  js : prs (K.length / 2) (F, K, N) = T
  sum : cst F K < 18446744073709551616
  nums : F.length + K.length ≤ 2000000
  few : N.length ≤ F.length ∧ ∀ k ∈ N, k < F.length
theorem Pj.round {w wr wa wb wc wd : World} {o : Obj} {base Fb B : Nat} {v0 v va vb v5 vd : Value} {F : List Nd} {bs K L Lb N : List Nat} {T : List Nd × List Nat × List Nat} {b0 : List Nat} (h : Pj w wr base Fb B v0 v v5 F bs K L N T b0) (h1 : 1 < K.length)
    (oa : va.ownBlock = v.ownBlock) (ka : Kp (fun k => k = B ∨ v.ownBlock = some k) wr wa)
    (gb : Gp wb base Fb B vb F bs ((K.erase (mn F K)).erase (mn F (K.erase (mn F K)))) Lb) (ob : vb.ownBlock = va.ownBlock) (kb : Kp (fun k => k = B ∨ va.ownBlock = some k) wa wb)
    (gc : Gp wc base Fb B vb (F ++ [jnd F (mn F K) (mn F (K.erase (mn F K)))]) (bs ++ [wb.heap.size]) ((K.erase (mn F K)).erase (mn F (K.erase (mn F K)))) Lb) (kc : Kp (fun k => k = Fb) wb wc)
    (od : wd.ownsRow w.heap.size 116 1 vd (N.length + 1) ((N.map fun k => bs.getD k 0).map ptr ++ [ptr wb.heap.size])) (kd : Kp (fun k => v5.ownBlock = some k) (wc.alloc o) wd) :
    Pj w wd base Fb B v0 vb vd (F ++ [jnd F (mn F K) (mn F (K.erase (mn F K)))]) (bs ++ [wb.heap.size]) ((K.erase (mn F K)).erase (mn F (K.erase (mn F K)))) Lb (N ++ [F.length]) T b0 := by
  obtain ⟨m1, _⟩ := mn_mem F (ne_nil_of (show 0 < K.length by omega))
  have l1 := erase_len m1
  obtain ⟨m2, _⟩ := mn_mem F (two_ne (F := F) h1)
  have l2 := erase_len m2
  have c1 := cst_erase (F := F) m1
  have c2 := cst_erase (F := F) m2
  have hsm := h.same
  have hlow := h.low
  have h5 := fun x e => (h.own.lt x e).1
  have h5b := fun x e => (h.own.lt x e).2
  have kd' : Kp (fun k => v5.ownBlock = some k) wc wd := (Kp.alloc (Kp.refl _ wc) o).trans kd (fun _ _ h => h)
  have z1 := ka.size
  have z2 := kb.size
  have z3 := kc.size
  have z0 := h.kp.size
  have hap := gc.apart
  have q1 : Kp (fun k => k = Fb ∨ k = B ∨ v0.ownBlock = some k) w wa := h.kp.trans ka (fun i _ e => .inr (e.imp id (fun e => hsm ▸ e)))
  have q2 : Kp (fun k => k = Fb ∨ k = B ∨ v0.ownBlock = some k) w wb := q1.trans kb (fun i _ e => .inr (e.imp id (fun e => by rw [oa, hsm] at e; exact e)))
  have q3 : Kp (fun k => k = Fb ∨ k = B ∨ v0.ownBlock = some k) w wc := q2.trans kc (fun i _ e => .inl e)
  have q4 : Kp (fun k => k = Fb ∨ k = B ∨ v0.ownBlock = some k) w wd := q3.trans kd' (fun i hi e => by have := h5 i e; omega)
  have hne5 : ∀ b ∈ bs ++ [wb.heap.size], v5.ownBlock ≠ some b := by
    intro b hb e
    rcases List.mem_append.1 hb with hb | hb
    · obtain ⟨k, hk, rfl⟩ := h.gp.fo.mem hb
      rcases h.own.2 with ⟨rfl, _⟩ | ⟨g', cap, cur, rfl, _, hg2, _⟩
      · simp [Value.ownBlock] at e
      · obtain rfl : g' = bs.getD k 0 := by simpa [Value.ownBlock] using e
        exact apart_types (t := 116) (u := 131) (by decide) hg2 (h.gp.fo.nd k hk)
    · have hbe : b = wb.heap.size := by simpa using hb
      have := h5b b e
      omega
  have hvb : vb.ownBlock = v0.ownBlock := by rw [ob, oa, hsm]
  refine ⟨h.pre.trans (List.prefix_append _ _), ⟨gc.fo.kp kd' (fun e => by have := h5 _ e; omega) (fun b hb e => hne5 b hb e), gc.pil.kp kd' (fun e => by have := h5 _ e; omega) (fun g e e2 => by have h3 := h5 _ e2; have h4 := hlow.2.2 g (hvb ▸ e); omega) (fun b hb e => by obtain ⟨_, _, _, hm⟩ := gc.sub hb; exact hne5 b hm e), gc.hx, gc.perm, gc.lt⟩, ?_, q4, hvb, hlow, ?_, ?_, ?_, ?_⟩
  · have e1 : ((N ++ [F.length]).map fun k => (bs ++ [wb.heap.size]).getD k 0) = (N.map fun k => bs.getD k 0) ++ [wb.heap.size] := by
      have hl := h.gp.fo.len
      rw [List.map_append]
      congr 1
      · refine List.map_congr_left fun k hk => ?_
        have := h.few.2 k hk
        simp [List.getD, List.getElem?_append_left (show k < bs.length by omega)]
      · simp [← hl]
    rw [e1, List.map_append, List.length_append]
    exact od
  · rw [← h.js]
    obtain ⟨m, hm⟩ : ∃ m, K.length = m + 2 := ⟨K.length - 2, by omega⟩
    rw [show ((K.erase (mn F K)).erase (mn F (K.erase (mn F K)))).length / 2 = m / 2 by omega, show K.length / 2 = m / 2 + 1 by omega]
    rfl
  · rw [cst_more gb.lt]
    have := h.sum
    omega
  · have := h.nums
    simp
    omega
  · have := h.few
    refine ⟨by simp; omega, fun k hk => ?_⟩
    rcases List.mem_append.1 hk with hk | hk
    · have := this.2 k hk
      simp
      omega
    · have : k = F.length := by simpa using hk
      simp
      omega
theorem join_pj {w wr wb : World} {base Fb B : Nat} {v0 v v5 vb : Value} {F : List Nd} {bs K L N Lb : List Nat} {T : List Nd × List Nat × List Nat} {b0 : List Nat} (h : Pj w wr base Fb B v0 v v5 F bs K L N T b0) (h1 : 1 < K.length) (gb : Gp wb base Fb B vb F bs ((K.erase (mn F K)).erase (mn F (K.erase (mn F K)))) Lb) :
    Calls Try.prog 77 #[ptr Fb, ptr (bs.getD (mn F K) 0), ptr (bs.getD (mn F (K.erase (mn F K))) 0)] wb fun e w' => e = .returned (ptr wb.heap.size) ∧ Gp w' base Fb B vb (F ++ [jnd F (mn F K) (mn F (K.erase (mn F K)))]) (bs ++ [wb.heap.size]) ((K.erase (mn F K)).erase (mn F (K.erase (mn F K)))) Lb ∧ Kp (fun k => k = Fb) wb w' := by
  obtain ⟨m1, _⟩ := mn_mem F (ne_nil_of (show 0 < K.length by omega))
  obtain ⟨m2, _⟩ := mn_mem F (two_ne (F := F) h1)
  have c1 := cst_erase (F := F) m1
  have c2 := cst_erase (F := F) m2
  have hs := h.sum
  have hn := h.nums
  exact joined_gp wb base Fb B vb F bs _ Lb gb _ _ (h.gp.lt _ m1) (h.gp.lt _ (List.mem_of_mem_erase m2)) (by omega) (by omega)
theorem Pj.owned {w wr wa wb wc : World} {base Fb B : Nat} {v0 v va v5 : Value} {F : List Nd} {bs K L N : List Nat} {T : List Nd × List Nat × List Nat} {b0 : List Nat} (h : Pj w wr base Fb B v0 v v5 F bs K L N T b0) (oa : va.ownBlock = v.ownBlock) (ka : Kp (fun k => k = B ∨ v.ownBlock = some k) wr wa) (kb : Kp (fun k => k = B ∨ va.ownBlock = some k) wa wb) (kc : Kp (fun k => k = Fb) wb wc) :
    wc.ownsRow w.heap.size 116 1 v5 N.length ((N.map fun k => bs.getD k 0).map ptr) ∧ w.heap.size ≤ wc.heap.size := by
  have h5 := fun x e => (h.own.lt x e).1
  have hlow := h.low
  have hsm := h.same
  refine ⟨own_kp (own_kp (own_kp h.own ka (fun g e => ?_)) kb (fun g e => ?_)) kc (fun g e => ?_), Nat.le_trans h.kp.size (Nat.le_trans ka.size (Nat.le_trans kb.size kc.size))⟩
  · have h1 := h5 g e
    rintro (e2 | e2)
    · omega
    · have := hlow.2.2 g (hsm ▸ e2); omega
  · have h1 := h5 g e
    rintro (e2 | e2)
    · omega
    · have := hlow.2.2 g (by rw [← hsm, ← oa]; exact e2); omega
  · have h1 := h5 g e
    omega

set_option maxHeartbeats 4000000 in
set_option maxRecDepth 100000 in
theorem pairs_any (w : World) (base Fb B : Nat) (v0 : Value) (F0 : List Nd) (bs0 K0 L0 : List Nat) (g : Gp w base Fb B v0 F0 bs0 K0 L0) (hsum : cst F0 K0 < 18446744073709551616) (hnum : F0.length + K0.length ≤ 2000000) :
    Calls Try.prog 78 #[ptr Fb, ptr B] w fun e w' => ∃ (v5 v : Value) (F : List Nd) (bs K L N : List Nat), e = .returned v5 ∧ Pj w w' base Fb B v0 v v5 F bs K L N (prs (K0.length / 2) (F0, K0, [])) bs0 ∧ ¬ 1 < K.length := by
  have HG : Hid (Pj w w base Fb B v0 v0 (.slice none 0 0) F0 bs0 K0 L0 [] (prs (K0.length / 2) (F0, K0, [])) bs0) := ⟨List.prefix_refl _, g, World.ownsRow_nil _ _ _ _, Kp.refl _ _, rfl, ⟨g.fo.st.lt, g.pil.st.lt, fun x e => (g.pil.own.lt x e).2⟩, rfl, hsum, hnum, ⟨Nat.zero_le _, fun k hk => by simp at hk⟩⟩
  generalize prs (K0.length / 2) (F0, K0, []) = T at *
  clear g hsum hnum
  go_enter Try.func78, Try.ntmps78
  go_wp2_with fail
  go_loopw [5] (fun v5 wr => ∃ (v : Value) (F : List Nd) (bs K L N : List Nat), Hid (Pj w wr base Fb B v0 v v5 F bs K L N T bs0)) (fun _ wr => pln B wr)
  case atStart => exact ⟨v0, F0, bs0, K0, L0, [], HG.out⟩
  case round =>
    clear HG
    obtain ⟨v, F, bs, K, L, N, HP⟩ := hrel
    have hnum := HP.out.nums
    have hfew := HP.out.few.1
    have hpl := hid HP.out.gp.pln
    have HN := hid (len_gp _ _ _ _ _ _ _ _ _ HP.out.gp)
    by_cases h1 : 1 < K.length
    · have HL1 := hid (least_gp _ _ _ _ _ _ _ _ _ HP.out.gp (ne_nil_of (show 0 < K.length by omega)) (by omega))
      go_wp2_with (first
        | (go_at_call 73; refine HN.out.mono ?_; rintro _ _ ⟨rfl, rfl⟩)
        | (go_at_call 74; refine HL1.out.mono ?_; rintro _ wa ⟨rfl, va, La, ga, oa, ka⟩; have HA := hid (And.intro ga (And.intro oa ka)); clear ga ka oa HL1; have HL2 := hid (least_gp _ _ _ _ _ _ _ _ _ HA.out.1 (two_ne h1) (Nat.lt_of_le_of_lt (List.length_erase_le) (by omega))))
        | (go_at_call 74; refine HL2.out.mono ?_; rintro _ wb ⟨rfl, vb, Lb, gb, ob, kb⟩; have HB := hid (And.intro gb (And.intro ob kb)); clear gb kb ob HL2; have HJ := hid (join_pj HP.out h1 HB.out.1))
        | (go_at_call 77; refine HJ.out.mono ?_; rintro _ wc ⟨he, gc, kc⟩; obtain rfl : _ = Ending.returned (Value.pointer (some ⟨wb.heap.size, 0, none⟩)) := he; have HC := hid (And.intro gc kc); clear gc kc HJ; have HO := hid (HP.out.owned HA.out.2.1 HA.out.2.2 HB.out.2.2 HC.out.2); have hsz := HO.out.2)
        | (at_builtin; refine wpList_append_any rfl (.tmp 9) (.tmp 16) 114 rfl w.heap.size 116 (.pointer none) 1 8 Try.underlying114 Try.info116b rfl (by decide) u5 N.length ((N.map fun k => bs.getD k 0).map ptr) rfl (HO.out.1.alloc _) (some ⟨wc.heap.size, 0, none⟩) 1 1 [ptr wb.heap.size] (by first | rfl | simp [Act.eval]) (fun h => by cases h) rfl (fun ad e j u hu => by (cases e; rw [add_z]; exact ((St.new 116 wc #[ptr wb.heap.size]).cell j).trans (by simpa using hu))) (fun u hu => by (simp at hu; subst hu; rfl)) (by unfold maxLen; omega) (by omega) (by simp; omega) ?_; intro vd wd od kd _; have HR := hid (HP.out.round h1 HA.out.2.1 HA.out.2.2 HB.out.1 HB.out.2.1 HB.out.2.2 HC.out.1 HC.out.2 od kd); clear od kd))
      refine ⟨⟨vb, _, _, _, Lb, _, HR.out⟩, ?_⟩
      rw [hpl.out, HR.out.gp.pln]
      have := short_of (F := F) h1
      simp at this
      omega
    · go_wp2_with (first
        | (go_at_call 73; refine HN.out.mono ?_; rintro _ _ ⟨rfl, rfl⟩))
      go_ret
      exact ⟨_, v, F, bs, K, L, N, rfl, HP.out, h1⟩
end Go.Proofs.Ythpocbpleffdpaa
