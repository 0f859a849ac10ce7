/-
  RegionsPlay answers true, whatever script of calls comes in, and leaves what was there as it was: no conditions.
  The walk lies in the texts that are imported; here the arguments are opened and read again.
-/
import Derived.Test.YtopnfjgkgoeleaaOp
import Derived.Test.YtopnfjgkgoeleaaVbX
import Derived.Test.YtopnfjgkgoeleaaVcX
import Derived.Test.YtopnfjgkgoeleaaQc
import Derived.Deep.CutRange
namespace Go.Proofs.Ytopnfjgkgoeleaa
open Go.ChangeShapes Go.WideShapes Go.ChangeAt Go.RowKit
set_option linter.unusedVariables false
set_option maxRecDepth 100000 in
theorem open_ints {H : Type} {enc : TypeId × Value → H} {W : World} {spare : Nat → Bool} {held : Bool} {fuel : Nat} {a0 : Option Addr} {len0 cap0 : Nat} {x : DataW H × List MemPlace} (hf : DataW.trod enc Try.prog W 0 spare held fuel 32 [.slice a0 len0 cap0] = some x) : ∃ K : List Int, len0 = K.length ∧ Src .i64 W a0 K ∧ len0 ≤ cap0 ∧ cap0 ≤ maxLen := by
  rcases Go.Deep.open_slice Try.underlying32 hf with ⟨hcs, _⟩ | ⟨x, l, c, m, n, D, Pl, hcs, _, hl, hm, hmm, _, hx⟩
  · simp at hcs
    obtain ⟨rfl, rfl, rfl⟩ := hcs
    exact ⟨[], rfl, fun h => absurd h (by simp), Nat.le_refl _, by unfold maxLen; omega⟩
  · simp at hcs
    obtain ⟨rfl, rfl, rfl⟩ := hcs
    have hlm : len0 ≤ m := by rw [hmm]; split <;> omega
    have each : ∀ i, i < len0 → ∃ z : Int, W.cell? (x.add i) = some (.int .i64 z) := by
      intro i hi
      obtain ⟨cs', g1, g2⟩ := hx i (by omega)
      rw [show Try.prog.cellsOf 3 = 1 by kernel_rfl] at g1
      obtain ⟨_, hlen, hcell⟩ := World.cells?_some g1
      obtain ⟨n1, e1, _, q1⟩ := DataW.trod_int Try.underlying3 g2
      subst e1
      have c0 := hcell 0 (by omega)
      rw [Go.Deep.add_add] at c0
      refine ⟨n1, ?_⟩
      simpa using c0
    obtain ⟨f, hf⟩ := choose_ltr (0 : Int) each
    refine ⟨(List.range len0).map f, by simp, ?_, hl, hm⟩
    intro hp
    simp at hp
    obtain ⟨b, off, spot⟩ := x
    have hc := hf 0 hp
    have hspot : spot = none := by simpa [Addr.add] using World.cell?_spot hc
    subst hspot
    refine ⟨b, off, rfl, fun i hi => ?_⟩
    simp at hi
    have e : ((List.range len0).map f).getD i 0 = f i := by simp [List.getD, hi]
    rw [e]
    have := hf i hi
    rw [add_o] at this
    exact this
/-- A step. -/
structure Sp where
  kd : Int
  lv : Int
  ao : Option Addr
  n : Nat
  cap : Nat
  L : List Rn
  p : Int
  m : Int
  q : Int
  bo : Option Addr
  kn : Nat
  kc : Nat
  K : List Int
def zSp : Sp := ⟨0, 0, none, 0, 0, [], 0, 0, 0, none, 0, 0, []⟩
def Sp.cs (s : Sp) : Array Value := #[.int .i64 s.kd, .int .i64 s.lv, .slice s.ao s.n s.cap, .int .i64 s.p, .int .i64 s.m, .int .i64 s.q, .slice s.bo s.kn s.kc]
structure Sp.ok (W : World) (s : Sp) : Prop where
  ln : s.n = s.L.length
  sr : Srcr W s.ao s.L
  i6 : ∀ e ∈ s.L, e.i6
  lc : s.n ≤ s.cap
  cm : s.cap ≤ maxLen
  no : s.ao = none → s.cap = 0
  p6 : I6 s.p
  m6 : I6 s.m
  q6 : I6 s.q
  kl : s.kn = s.K.length
  ks : Src .i64 W s.bo s.K
  kk : s.kn ≤ s.kc
  km : s.kc ≤ maxLen
def Srcs (W : World) (bo : Option Addr) (S : List Sp) : Prop := 0 < S.length → ∃ b off, bo = some ⟨b, off, none⟩ ∧ b < W.heap.size ∧ ∀ i, i < S.length → ∀ j u, (S.getD i zSp).cs[j]? = some u → W.cell? ⟨b, off + i * 7 + j, none⟩ = some u
set_option maxRecDepth 100000 in
theorem open_steps {H : Type} {enc : TypeId × Value → H} {W : World} {spare : Nat → Bool} {held : Bool} {fuel : Nat} {a0 : Option Addr} {len0 cap0 : Nat} {x : DataW H × List MemPlace} (hf : DataW.trod enc Try.prog W 0 spare held fuel 22 [.slice a0 len0 cap0] = some x) : ∃ S : List Sp, len0 = S.length ∧ Srcs W a0 S ∧ (∀ s ∈ S, s.ok W) ∧ len0 ≤ cap0 ∧ cap0 ≤ maxLen := by
  rcases Go.Deep.open_slice Try.underlying22 hf with ⟨hcs, _⟩ | ⟨x, l, c, m, n, D, Pl, hcs, _, hl, hm, hmm, _, hx⟩
  · simp at hcs
    obtain ⟨rfl, rfl, rfl⟩ := hcs
    exact ⟨[], rfl, fun h => absurd h (by simp), fun t ht => by simp at ht, Nat.le_refl _, by unfold maxLen; omega⟩
  · simp at hcs
    obtain ⟨rfl, rfl, rfl⟩ := hcs
    have hlm : len0 ≤ m := by rw [hmm]; split <;> omega
    have each : ∀ i, i < len0 → ∃ t : Sp, (∀ j, j < 7 → W.cell? (x.add (i * 7 + j)) = t.cs[j]?) ∧ t.ok W := by
      intro i hi
      obtain ⟨cs', g1, g2⟩ := hx i (by omega)
      rw [show Try.prog.cellsOf 34 = 7 by kernel_rfl] at g1
      obtain ⟨_, hlen, hcell⟩ := World.cells?_some g1
      obtain ⟨xs, k, hk, hxy, _, hxl, hfld⟩ := DataW.trod_struct Try.underlying34 g2
      have o2 : Try.prog.cellsOf 2 = 1 := by kernel_rfl
      have o3 : Try.prog.cellsOf 3 = 1 := by kernel_rfl
      have o27 : Try.prog.cellsOf 27 = 1 := by kernel_rfl
      have o32 : Try.prog.cellsOf 32 = 1 := by kernel_rfl
      match xs, hxl, cs', hlen with
      | [y0, y1, y2, y3, y4, y5, y6], _, [u0, u1, u2, u3, u4, u5, u6], _ =>
        have f0 := hfld 0 _ rfl
        have f1 := hfld 1 _ rfl
        have f2 := hfld 2 _ rfl
        have f3 := hfld 3 _ rfl
        have f4 := hfld 4 _ rfl
        have f5 := hfld 5 _ rfl
        have f6 := hfld 6 _ rfl
        simp [o2, o3, o27, o32] at f0 f1 f2 f3 f4 f5 f6
        obtain ⟨n0, e0, _, q0⟩ := DataW.trod_int Try.underlying3 f0
        obtain ⟨n1, e1, _, q1⟩ := DataW.trod_int Try.underlying3 f1
        obtain ⟨n3, e3, _, q3⟩ := DataW.trod_int Try.underlying2 f3
        obtain ⟨n4, e4, _, q4⟩ := DataW.trod_int Try.underlying2 f4
        obtain ⟨n5, e5, _, q5⟩ := DataW.trod_int Try.underlying2 f5
        injection e0 with e0
        injection e1 with e1
        injection e3 with e3
        injection e4 with e4
        injection e5 with e5
        obtain ⟨a2, l2, c2, rfl⟩ : ∃ a l c, u2 = .slice a l c := by
          rcases Go.Deep.open_slice Try.underlying27 f2 with ⟨hcs, _⟩ | ⟨x, l, c, m, n, D, Pl, hcs, _⟩
          · simp at hcs; exact ⟨_, _, _, hcs⟩
          · simp at hcs; exact ⟨_, _, _, hcs⟩
        obtain ⟨a6, l6, c6, rfl⟩ : ∃ a l c, u6 = .slice a l c := by
          rcases Go.Deep.open_slice Try.underlying32 f6 with ⟨hcs, _⟩ | ⟨x, l, c, m, n, D, Pl, hcs, _⟩
          · simp at hcs; exact ⟨_, _, _, hcs⟩
          · simp at hcs; exact ⟨_, _, _, hcs⟩
        obtain ⟨M, ln, src, i6, lc, cm, no⟩ := open_r f2
        obtain ⟨K, kl, ks, kk, km⟩ := open_ints f6
        subst e0 e1 e3 e4 e5
        refine ⟨⟨n0, n1, a2, l2, c2, M, n3, n4, n5, a6, l6, c6, K⟩, fun j hj => ?_, ⟨ln, src, i6, lc, cm, no, bounds_i64 q3, bounds_i64 q4, bounds_i64 q5, kl, ks, kk, km⟩⟩
        have c0 := hcell j (by omega)
        rw [Go.Deep.add_add] at c0
        rw [c0]
        simp [Sp.cs]
    obtain ⟨f, hf⟩ := choose_ltr zSp each
    refine ⟨(List.range len0).map f, by simp, ?_, fun t ht => ?_, hl, hm⟩
    · intro hp
      simp at hp
      obtain ⟨b, off, spot⟩ := x
      have hc := (hf 0 hp).1 0 (by omega)
      have hc2 : W.cell? (Addr.add ⟨b, off, spot⟩ (0 * 7 + 0)) = some (.int .i64 (f 0).kd) := hc
      have hspot : spot = none := by simpa [Addr.add] using World.cell?_spot hc2
      subst hspot
      have hbl : b < W.heap.size := by
        rw [add_o] at hc2
        exact block_lt_of_cell hc2
      refine ⟨b, off, rfl, hbl, fun i hi j u hu => ?_⟩
      simp at hi
      have e : ((List.range len0).map f).getD i zSp = f i := by simp [List.getD, hi]
      rw [e] at hu
      have hj : j < 7 := (Array.getElem?_eq_some_iff.1 hu).1
      have g0 := (hf i hi).1 j hj
      rw [add_o, hu] at g0
      rw [← g0, Nat.add_assoc]
    · obtain ⟨i, hi, rfl⟩ := List.mem_map.1 ht
      exact (hf i (by simpa using hi)).2
theorem Srcs.at {W : World} {bo : Option Addr} {S : List Sp} (h : Srcs W bo S) {i : Nat} (hi : i < S.length) : ∃ b off, bo = some ⟨b, off, none⟩ ∧ b < W.heap.size ∧ ∀ j u, (S.getD i zSp).cs[j]? = some u → W.cell? ⟨b, off + i * 7 + j, none⟩ = some u := by
  obtain ⟨b, off, e, hb, hc⟩ := h (by omega)
  exact ⟨b, off, e, hb, hc i hi⟩
theorem gds_mem {S : List Sp} {k : Nat} (h : k < S.length) : S.getD k zSp ∈ S := by
  have : S.getD k zSp = S[k] := by simp [List.getD, h]
  rw [this]
  exact List.getElem_mem h
end Go.Proofs.Ytopnfjgkgoeleaa

namespace Go.Proofs.Ytopnfjgkgoeleaa
open Go.RowKit
set_option linter.unusedVariables false
set_option linter.unusedSimpArgs false
theorem Try.inf24 : (Try.prog.info? 24).map (fun i => (i.zero, i.size, i.bytes)) = some (some (.pointer none), 1, 8) := by kernel_rfl
theorem Try.inf29 : (Try.prog.info? 29).map (fun i => (i.zero, i.size, i.bytes)) = some (some (.agg #[.slice none 0 0]), 1, 24) := by kernel_rfl
theorem own_appq {w : World} {base b : Nat} {v u : Value} {D : List Value} {ty : TypeId} (h : w.ownsRow base 24 1 v D.length D) (hb : St 24 w b #[u]) (hu : u.oneCell' = true) (hl : D.length ≤ 100000) (hbase : base ≤ w.heap.size) :
    ∃ v' w', (Builtin.append_ #[30, 30] ty #[v, .slice (some ⟨b, 0, none⟩) 1 1]).run Try.prog w = .ok v' w' ∧ w'.ownsRow base 24 1 v' (D ++ [u]).length (D ++ [u]) ∧ Kp (fun i => v.ownBlock = some i) w w' ∧ (v'.ownBlock = v.ownBlock ∨ v'.ownBlock = some w.heap.size) := by
  obtain ⟨i0, hi, hz0, hz1, hz2⟩ := info_parts Try.inf24
  obtain ⟨v', w', h1, h2, h3, h4, h5⟩ := run_append_own_at (P := Try.prog) w base 30 ty 24 i0 _ 1 8 Try.underlying30 hi hz0 hz1 hz2 rfl (by decide) v D.length D h ⟨b, 0, none⟩ 1 1 [u] rfl (fun j x hx => by rw [add_z, hb.cell j]; simpa using hx) (fun x hx => by simp at hx; subst hx; exact hu) (by unfold maxLen; omega) (by omega) hbase
  refine ⟨v', w', h1, ?_, Kp.of_grown h3 (fun i e => e), h5⟩
  simpa using h2
theorem own_appw {w : World} {base b : Nat} {v u : Value} {D : List Value} {ty : TypeId} (h : w.ownsRow base 29 1 v D.length D) (hb : St 29 w b #[u]) (hu : u.oneCell' = true) (hl : D.length ≤ 100000) (hbase : base ≤ w.heap.size) :
    ∃ v' w', (Builtin.append_ #[31, 31] ty #[v, .slice (some ⟨b, 0, none⟩) 1 1]).run Try.prog w = .ok v' w' ∧ w'.ownsRow base 29 1 v' (D ++ [u]).length (D ++ [u]) ∧ Kp (fun i => v.ownBlock = some i) w w' ∧ (v'.ownBlock = v.ownBlock ∨ v'.ownBlock = some w.heap.size) := by
  obtain ⟨i0, hi, hz0, hz1, hz2⟩ := info_parts Try.inf29
  obtain ⟨v', w', h1, h2, h3, h4, h5⟩ := run_append_own_at (P := Try.prog) w base 31 ty 29 i0 _ 1 24 Try.underlying31 hi hz0 hz1 hz2 rfl (by decide) v D.length D h ⟨b, 0, none⟩ 1 1 [u] rfl (fun j x hx => by rw [add_z, hb.cell j]; simpa using hx) (fun x hx => by simp at hx; subst hx; exact hu) (by unfold maxLen; omega) (by omega) hbase
  refine ⟨v', w', h1, ?_, Kp.of_grown h3 (fun i e => e), h5⟩
  simpa using h2
theorem ownb {w : World} {base n : Nat} {v : Value} {xs : List Value} {t : TypeId} {g : Nat} (h : w.ownsRow base t 1 v n xs) (e : v.ownBlock = some g) : ∃ cur, St t w g cur ∧ base ≤ g := by
  rcases h.2 with ⟨rfl, _⟩ | ⟨g', cap, cur, rfl, h1, h2, _⟩
  · simp [Value.ownBlock] at e
  · simp [Value.ownBlock] at e
    subst e
    exact ⟨cur, h2, h1⟩
set_option maxRecDepth 100000 in
set_option maxHeartbeats 4000000 in
theorem same_non {w : World} {B c : Nat} {ao : Option Addr} {l : List Rn} (h : Rg w B ao c l) : Calls Try.prog 11 #[.pointer (some ⟨B, 0, none⟩), .pointer none] w fun e w' => e = .returned (.bool false) ∧ Kp (fun _ => False) w w' := by
  have HN := hid (none_yes B _ w h.rb)
  have HM := hid (non_nil w w (Kp.refl _ _))
  clear h
  go_enter Try.func11, Try.ntmps11
  go_wp2_with fail
  refine HN.out.mono ?_
  rintro e w1 ⟨rfl, rfl⟩
  go_wp2_with fail
  refine HM.out.1.mono ?_
  rintro e w1 ⟨rfl, rfl⟩
  go_wp2_with fail
  go_ret
  exact ⟨rfl, Kp.refl _ _⟩
theorem step_any (W : World) (B rq : Nat) (ao : Option Addr) (c : Nat) (l : List Rn) (s : Sp) (hn : s.n ≤ 40) (hkn : s.kn ≤ 40) (ok : s.ok W) (hlow : ∀ b off, s.ao = some ⟨b, off, none⟩ → 0 < s.L.length → b ≠ B ∧ ¬ Rmb ao l.length c b ∧ b ≠ rq) (t : Two W B rq ao c l) :
    Calls Try.prog 12 #[.pointer (some ⟨B, 0, none⟩), .pointer (some ⟨rq, 0, none⟩), .agg s.cs] W fun e w' => e = .returned (.bool true) ∧ ∃ l', Ch W B rq ao l.length c l' w' := by
  obtain ⟨ln, sr, i6, lc, cm, no, p6, m6, q6, kl, ks, kk, km⟩ := ok
  obtain ⟨kd, lv, so, n, cap, L, p, m, q, bo, kn, kc, K⟩ := s
  dsimp only at *
  unfold Sp.cs
  dsimp only
  by_cases h : kd < 0 ∨ 9 < kd
  · exact step_else W B rq ao c l kd lv p m q _ _ h t
  · have hc : kd = 0 ∨ kd = 1 ∨ kd = 2 ∨ kd = 3 ∨ kd = 4 ∨ kd = 5 ∨ kd = 6 ∨ kd = 7 ∨ kd = 8 ∨ kd = 9 := by omega
    rcases hc with rfl | rfl | rfl | rfl | rfl | rfl | rfl | rfl | rfl | rfl
    · exact step_put W B rq ao c l L 0 lv p m q so n cap _ (.inl rfl) ln.symm hn i6 no sr hlow t
    · exact step_put W B rq ao c l L 1 lv p m q so n cap _ (.inr (.inl rfl)) ln.symm hn i6 no sr hlow t
    · exact step_put W B rq ao c l L 2 lv p m q so n cap _ (.inr (.inr rfl)) ln.symm hn i6 no sr hlow t
    · exact step_take W B rq ao c l lv p m q _ _ t
    · exact step_move W B rq ao c l lv p m q _ _ q6 t
    · exact step_ask W B rq ao c l lv p m q _ bo kn kc K p6 m6 kl hkn kk ks t
    · exact step_of W B rq ao c l lv p m q _ _ p6 t
    · exact step_first W B rq ao c l lv p m q _ _ p6 m6 q6 t
    · exact step_count W B rq ao c l lv p m q _ _ t
    · exact step_gaps W B rq ao c l lv p m q _ _ q6 t
/-- One that was put aside. -/
structure Od where
  B : Nat
  ao : Option Addr
  c : Nat
  l : List Rn
  ra : Option Addr
  rc : Nat
def Od.p (o : Od) : Value := .pointer (some ⟨o.B, 0, none⟩)
def Od.v (o : Od) : Value := .slice o.ra o.l.length o.rc
/-- The blocks of the two rows of those that were put aside. -/
def Rws (vo vw : Value) (i : Nat) : Prop := vo.ownBlock = some i ∨ vw.ownBlock = some i
structure Pj (w : World) (rq b0 B : Nat) (ao : Option Addr) (c : Nat) (l : List Rn) (vo vw : Value) (OL : List Od) (Z : World) : Prop where
  k : Kp (fun _ => False) w Z
  two : Two Z B rq ao c l
  lB : w.heap.size ≤ B
  lR : ∀ i, Rmb ao l.length c i → w.heap.size ≤ i
  lq : w.heap.size ≤ rq
  sp : ∀ b, blk ao c b → ¬ Rws vo vw b
  old : ∀ o ∈ OL, Rg Z o.B o.ao o.c o.l ∧ o.B ≠ B ∧ ∀ b, blk o.ao o.c b → b ≠ B ∧ b ≠ rq ∧ ¬ Rmb ao l.length c b ∧ ¬ Rws vo vw b
  po : Z.ownsRow b0 24 1 vo (OL.map Od.p).length (OL.map Od.p)
  pw : Z.ownsRow b0 29 1 vw (OL.map Od.v).length (OL.map Od.v)
  pr : ∀ o ∈ OL, Srcr Z o.ra o.l ∧ Tb Z o.ra ∧ ∀ b off, o.ra = some ⟨b, off, none⟩ → ¬ blk o.ao o.c b ∧ ¬ Rmb ao l.length c b
  b0 : rq < b0 ∧ b0 ≤ Z.heap.size
theorem Pj.rb {w : World} {rq b0 B : Nat} {ao : Option Addr} {c : Nat} {l : List Rn} {vo vw : Value} {OL : List Od} {Z : World} (p : Pj w rq b0 B ao c l vo vw OL Z) {i : Nat} (e : Rws vo vw i) : b0 ≤ i ∧ i < Z.heap.size ∧ ((∃ cur, St 24 Z i cur) ∨ ∃ cur, St 29 Z i cur) := by
  rcases e with e | e
  · obtain ⟨cur, hc, hb⟩ := ownb p.po e
    exact ⟨hb, hc.lt, .inl ⟨cur, hc⟩⟩
  · obtain ⟨cur, hc, hb⟩ := ownb p.pw e
    exact ⟨hb, hc.lt, .inr ⟨cur, hc⟩⟩
theorem Tb.kp0 {w w' : World} {ao : Option Addr} (h : Tb w ao) (k : Kp (fun _ => False) w w') : Tb w' ao := h.kp k (fun _ _ _ x => x)
theorem Pj.same {w : World} {rq b0 B : Nat} {ao : Option Addr} {c : Nat} {l : List Rn} {vo vw : Value} {OL : List Od} {Z Y : World} (p : Pj w rq b0 B ao c l vo vw OL Z) (k : Kp (fun _ => False) Z Y) : Pj w rq b0 B ao c l vo vw OL Y :=
  ⟨p.k.trans k (fun _ _ h => h), p.two.kp0 k, p.lB, p.lR, p.lq, p.sp, fun o ho => ⟨(p.old o ho).1.kp0 k, (p.old o ho).2⟩, own_kp p.po k (fun _ _ h => h), own_kp p.pw k (fun _ _ h => h), fun o ho => ⟨(p.pr o ho).1.kp k (fun _ _ _ _ h => h), (p.pr o ho).2.1.kp0 k, (p.pr o ho).2.2⟩, p.b0.1, Nat.le_trans p.b0.2 k.size⟩
theorem RL.st {q : Nat} {w : World} {l : List Rn} (h : RL q w l) : ∃ cur, St 29 w q cur := by
  obtain ⟨ao, cap, s, _⟩ := h.mem
  exact ⟨_, s⟩
/-- A call of the two. -/
theorem Pj.ch {w : World} {rq b0 B : Nat} {ao : Option Addr} {c : Nat} {l l' : List Rn} {vo vw : Value} {OL : List Od} {Z Y : World} (p : Pj w rq b0 B ao c l vo vw OL Z) (h : Ch Z B rq ao l.length c l' Y) : ∃ ao' c', Pj w rq b0 B ao' c' l' vo vw OL Y := by
  obtain ⟨⟨ao', c', t', f⟩, k, nr⟩ := h
  have hlq := p.lq
  have hlB := p.lB
  have n75 : ∀ b cur, b ≠ B → St 75 Z b cur → ¬ (b = B ∨ Rmb ao l.length c b ∨ b = rq) := fun b cur hb s e => by
    rcases e with e | e | rfl
    · exact hb e
    · obtain ⟨c2, s2⟩ := p.two.rg.room e
      exact apart_types s s2 (by decide)
    · obtain ⟨c2, s2⟩ := p.two.rl.st
      exact apart_types s s2 (by decide)
  have n24 : ∀ b cur, St 24 Z b cur → ¬ (b = B ∨ Rmb ao l.length c b ∨ b = rq) := fun b cur s e => by
    rcases e with rfl | e | rfl
    · exact apart_types s p.two.rg.rb (by decide)
    · obtain ⟨c2, s2⟩ := p.two.rg.room e
      exact apart_types s s2 (by decide)
    · obtain ⟨c2, s2⟩ := p.two.rl.st
      exact apart_types s s2 (by decide)
  have n29 : ∀ b cur, St 29 Z b cur → b0 ≤ b → ¬ (b = B ∨ Rmb ao l.length c b ∨ b = rq) := fun b cur s hb e => by
    rcases e with rfl | e | rfl
    · exact apart_types s p.two.rg.rb (by decide)
    · obtain ⟨c2, s2⟩ := p.two.rg.room e
      exact apart_types s s2 (by decide)
    · have := p.b0.1; omega
  have n46 : ∀ b cur, St 46 Z b cur → ¬ Rmb ao l.length c b → ¬ (b = B ∨ Rmb ao l.length c b ∨ b = rq) := fun b cur s hr e => by
    rcases e with rfl | e | rfl
    · exact apart_types s p.two.rg.rb (by decide)
    · exact hr e
    · obtain ⟨c2, s2⟩ := p.two.rl.st
      exact apart_types s s2 (by decide)
  have hkw := p.k.size
  refine ⟨ao', c', p.k.trans k (fun i hi e => ?_), t', hlB, fun i hi => ?_, hlq, fun b hb hr => ?_, fun o ho => ?_, own_kp p.po k (fun g e => ?_), own_kp p.pw k (fun g e => ?_), fun o ho => ?_, p.b0.1, Nat.le_trans p.b0.2 k.size⟩
  · rcases e with e | e | e
    · omega
    · have := p.lR i e; omega
    · omega
  · rcases f.rmb hi with e | e
    · omega
    · exact p.lR i e
  · rcases fro_blk f hb with e | e
    · have := (p.rb hr).2.1; omega
    · exact p.sp b e hr
  · obtain ⟨g1, g2, g3⟩ := p.old o ho
    refine ⟨g1.kpb k (n75 _ _ g2 g1.rb) (fun b hb e => ?_), g2, fun b hb => ?_⟩
    · obtain ⟨a1, a2, a3, _⟩ := g3 b hb
      rcases e with e | e | e
      · exact a1 e
      · exact a3 e
      · exact a2 e
    · obtain ⟨a1, a2, a3, a4⟩ := g3 b hb
      refine ⟨a1, a2, fun hr => ?_, a4⟩
      rcases f.rmb hr with e | e
      · have := g1.lst.blk_lt hb; omega
      · exact a3 e
  · obtain ⟨cur, hc, _⟩ := ownb p.po e
    exact n24 g cur hc
  · obtain ⟨cur, hc, hb⟩ := ownb p.pw e
    exact n29 g cur hc hb
  · obtain ⟨g1, g2, g3⟩ := p.pr o ho
    have hb : ∀ b off, o.ra = some ⟨b, off, none⟩ → ¬ (b = B ∨ Rmb ao l.length c b ∨ b = rq) := fun b off e => by
      obtain ⟨cur, hc⟩ := (g2 b off none e).2
      exact n46 b cur hc (g3 b off e).2
    refine ⟨g1.kp k (fun b off e _ => hb b off e), g2.kp k hb, fun b off e => ⟨(g3 b off e).1, fun hr => ?_⟩⟩
    rcases f.rmb hr with e2 | e2
    · obtain ⟨cur, hc⟩ := (g2 b off none e).2
      have := hc.lt
      omega
    · exact (g3 b off e).2 e2
/-- What changes where one is put aside: the two rows alone. -/
theorem Pj.core {w : World} {rq b0 B : Nat} {ao : Option Addr} {c : Nat} {l : List Rn} {vo vw : Value} {OL : List Od} {Z Y : World} (p : Pj w rq b0 B ao c l vo vw OL Z) (k : Kp (Rws vo vw) Z Y) : Two Y B rq ao c l ∧ Y.cell? ⟨rq, 0, none⟩ = Z.cell? ⟨rq, 0, none⟩ ∧ (∀ o ∈ OL, Rg Y o.B o.ao o.c o.l ∧ Srcr Y o.ra o.l ∧ Tb Y o.ra) := by
  have nq : ¬ Rws vo vw rq := fun e => by have := (p.rb e).1; have := p.b0.1; omega
  have n75 : ∀ b cur, St 75 Z b cur → ¬ Rws vo vw b := fun b cur s e => by
    rcases (p.rb e).2.2 with ⟨c2, hc⟩ | ⟨c2, hc⟩
    · exact apart_types s hc (by decide)
    · exact apart_types s hc (by decide)
  have n46 : ∀ b cur, St 46 Z b cur → ¬ Rws vo vw b := fun b cur s e => by
    rcases (p.rb e).2.2 with ⟨c2, hc⟩ | ⟨c2, hc⟩
    · exact apart_types s hc (by decide)
    · exact apart_types s hc (by decide)
  have ce := p.two.rl.cell_eq k nq
  refine ⟨⟨p.two.rg.kpb k (n75 _ _ p.two.rg.rb) p.sp, p.two.rl.kpo k nq (fun b off n cap hc => ?_), p.two.nq, fun b off n cap hc => p.two.ap b off n cap (ce ▸ hc)⟩, ce, fun o ho => ?_⟩
  · obtain ⟨cur, s⟩ := p.two.rl.tb hc
    exact n46 b cur s
  · obtain ⟨g1, g2, g3⟩ := p.old o ho
    obtain ⟨a1, a2, a3⟩ := p.pr o ho
    have hb : ∀ b off, o.ra = some ⟨b, off, none⟩ → ¬ Rws vo vw b := fun b off e => by
      obtain ⟨cur, hc⟩ := (a2 b off none e).2
      exact n46 b cur hc
    exact ⟨g1.kpb k (n75 _ _ g1.rb) (fun b hb2 => (g3 b hb2).2.2.2), a1.kp k (fun b off e _ => hb b off e), a2.kp k hb⟩
theorem Pj.rows {w : World} {rq b0 B : Nat} {ao : Option Addr} {c : Nat} {l : List Rn} {vo vw vo' vw' : Value} {OL : List Od} {Z Y Y2 : World} {C : Nat} {ra : Option Addr} {rc : Nat} (p : Pj w rq b0 B ao c l vo vw OL Z) (ha : Z.cell? ⟨rq, 0, none⟩ = some (.slice ra l.length rc)) (k : Kp (Rws vo vw) Z Y)
    (po : Y.ownsRow b0 24 1 vo' (OL.map Od.p ++ [Od.p ⟨B, ao, c, l, ra, rc⟩]).length (OL.map Od.p ++ [Od.p ⟨B, ao, c, l, ra, rc⟩])) (pw : Y.ownsRow b0 29 1 vw' (OL.map Od.v ++ [Od.v ⟨B, ao, c, l, ra, rc⟩]).length (OL.map Od.v ++ [Od.v ⟨B, ao, c, l, ra, rc⟩]))
    (nw : ∀ i, Rws vo' vw' i → Rws vo vw i ∨ Z.heap.size ≤ i)
    (k2 : Kp (fun _ => False) Y Y2) (hC : Y.heap.size ≤ C) (g2 : Rg Y2 C ao l.length l) : Pj w rq b0 C ao l.length l vo' vw' (OL ++ [⟨B, ao, c, l, ra, rc⟩]) Y2 := by
  obtain ⟨t, ce, ol⟩ := p.core k
  have hlc : l.length ≤ c := t.rg.lst.2.1
  have bk : ∀ b, blk ao l.length b → blk ao c b := fun b hb => ⟨by have := hb.1; omega, hb.2⟩
  have nrm : ∀ b, ¬ Rmb ao l.length l.length b := fun b hb => by have := hb.1; omega
  have hkw := p.k.size
  have hks := k.size
  have ws : ∀ b, b < Z.heap.size → ¬ Rws vo vw b → ¬ Rws vo' vw' b := fun b hb hn e => by
    rcases nw b e with h | h
    · exact hn h
    · omega
  have t2 := t.kp0 k2
  refine ⟨p.k.trans (k.trans k2 (fun _ _ x => x.elim)) (fun i hi e => by have := (p.rb e).1; have := p.b0.1; have := p.lq; omega), ⟨g2, t2.rl, fun e => p.two.nq (bk _ e), fun b off n cap hc e => t2.ap b off n cap hc (bk _ e)⟩, by omega, fun i hi => absurd hi (nrm i), p.lq, fun b hb => ws b (p.two.rg.lst.blk_lt (bk b hb)) (p.sp b (bk b hb)), fun o ho => ?_, ?_, ?_, fun o ho => ?_, p.b0.1, by have := p.b0.2; have := k2.size; omega⟩
  · rcases List.mem_append.1 ho with ho | ho
    · obtain ⟨a1, a2, a3⟩ := p.old o ho
      refine ⟨(ol o ho).1.kp0 k2, fun e => ?_, fun b hb => ?_⟩
      · have h1 := St.lt a1.rb
        omega
      · have hlt := a1.lst.blk_lt hb
        obtain ⟨c1, c2, c3, c4⟩ := a3 b hb
        exact ⟨by omega, c2, nrm b, ws b hlt c4⟩
    · simp only [List.mem_singleton] at ho
      subst ho
      refine ⟨t2.rg, fun e => ?_, fun b hb => ?_⟩
      · have h1 := St.lt p.two.rg.rb
        dsimp only at e
        omega
      · have hlt := p.two.rg.lst.blk_lt hb
        exact ⟨by omega, fun e => p.two.nq (e ▸ hb), nrm b, ws b hlt (p.sp b hb)⟩
  · rw [List.map_append]
    exact own_kp po k2 (fun _ _ h => h)
  · rw [List.map_append]
    exact own_kp pw k2 (fun _ _ h => h)
  · rcases List.mem_append.1 ho with ho | ho
    · exact ⟨(ol o ho).2.1.kp k2 (fun _ _ _ _ h => h), (ol o ho).2.2.kp0 k2, fun b off e => ⟨((p.pr o ho).2.2 b off e).1, nrm b⟩⟩
    · simp only [List.mem_singleton] at ho
      subst ho
      obtain ⟨a1, c1, g1, g3, g4, _⟩ := t2.rl.mem
      have h5 : Y2.cell? ⟨rq, 0, none⟩ = some (.slice a1 l.length c1) := g1.cell 0
      rw [t.rl.cell_eq k2 (fun x => x), ce, ha] at h5
      simp only [Option.some.injEq, Value.slice.injEq] at h5
      obtain ⟨rfl, _, rfl⟩ := h5
      exact ⟨g3, g4, fun b off e => ⟨fun hb => p.two.ap b off l.length rc (by rw [ha]; dsimp only at e; rw [e]) hb, nrm b⟩⟩
end Go.Proofs.Ytopnfjgkgoeleaa

namespace Go.Proofs.Ytopnfjgkgoeleaa
open Go.RowKit
set_option linter.unusedVariables false
set_option linter.unusedSimpArgs false
theorem wp_store_r46 {o : Oper} {a : Act} {w : World} {K : Act → World → Prop} {Q : Exit → Act → World → Prop} (x y : Operand) (ho : o.op = .store 46 x y) (g : Nat) (hx : a.eval x = .pointer (some ⟨g, 0, none⟩)) {e e' : Rn} (hy : a.eval y = .agg e'.cs) (s : Rn.B w g e)
    (hk : ∀ w', Rn.B w' g e' → Kp (fun i => i = g) w w' → K (a.put o.dst undef) w') : o.wp Try.prog a w K Q := by
  unfold Oper.wp execOp
  simp only [ho, hx, hy, Instr.storeAt, Instr.sureAddr, Sem.run_bind, Sem.run_pure, Result.andThen_ok, run_storeVar_row w g 46 46 e.cs e'.cs s (by rw [Try.isz46]; rfl) rfl (Rn.one e')]
  exact hk _ (setRow_heap w g _ _ 46 _ s) (kp_setRowr w g _)
theorem endL_last {l : List Rn} (h : 0 < l.length) : endL l = (l.getD (l.length - 1) zRn).e := by
  unfold endL
  congr 1
  rw [gd (by omega), List.getLastD_eq_getLast?, List.getLast?_eq_getElem?]
  simp [List.getElem?_eq_getElem (show l.length - 1 < l.length by omega)]
set_option maxRecDepth 100000 in
set_option maxHeartbeats 16000000 in
theorem rend_any (w : World) (q : Nat) (l : List Rn) (h : RL q w l) :
    Calls Try.prog 14 #[.pointer (some ⟨q, 0, none⟩)] w fun e w' => e = .returned (.int .i64 (endL l)) ∧ Kp (fun _ => False) w w' := by
  have hmix : Try.prog.follows .mixedOrders = true := by kernel_rfl
  obtain ⟨ao, cap, hq, hs, ht, hc1, hc2, hz⟩ := h.mem
  have HSR := hid h.srt
  have hl6 := h.len
  unfold maxLen at hc2
  by_cases h0 : l.length = 0
  · have HE : Hid (endL l = 0) := by show endL l = _; rw [List.length_eq_zero_iff.1 h0]; rfl
    have zq : w.cell? ⟨q, 0, none⟩ = some (.slice ao 0 cap) := by have h9 := hq.cell 0; rw [h0] at h9; exact h9
    clear hq hs ht hz h h0 hc1
    go_enter Try.func14, Try.ntmps14
    go_wp2_with fail
    go_ret
    rw [HE.out]
    exact ⟨rfl, Kp.refl _ _⟩
  · obtain ⟨m, hm⟩ : ∃ m, l.length = m + 1 := ⟨l.length - 1, by omega⟩
    have hE := endL_last (l := l) (by omega)
    rw [show l.length - 1 = m by omega] at hE
    have hml : m < l.length := by omega
    obtain ⟨gb, off, rfl, _, x0, x1, x2⟩ := hs.at (i := m) hml
    have hxm := HSR.out.may hml
    obtain ⟨x, hx⟩ : ∃ x, x = l.getD m zRn := ⟨_, rfl⟩
    rw [← hx] at x0 x1 x2 hE hxm
    have HE := hid hE
    obtain ⟨n, hn⟩ : ∃ n, n = m + 1 := ⟨_, rfl⟩
    rw [hm, ← hn] at hq hc1 hl6
    have HQ := hid hq
    have HSC : Hid (∀ U, Kp (fun _ => False) w U → U.cell? ⟨q, 0, none⟩ = some (.slice (some ⟨gb, off, none⟩) n cap) ∧ U.cell? ⟨gb, off + m * 3, none⟩ = some (.int .i64 x.k) ∧ U.cell? ⟨gb, off + m * 3 + 1, none⟩ = some (.int .i64 x.a) ∧ U.cell? ⟨gb, off + m * 3 + 2, none⟩ = some (.int .i64 x.n)) := fun U ku => ⟨(hq.kp ku (fun h => h)).cell 0, kp_cell ku x0 (fun h => h), kp_cell ku x1 (fun h => h), kp_cell ku x2 (fun h => h)⟩
    unfold Mayr at hxm
    have w1 : IntKind.i64.wrap (x.a + x.n) = x.a + x.n := by rw [IntKind.wrap_i64]; omega
    have w2 : IntKind.i64.wrap ((n : Int) - 1) = (m : Int) := by rw [IntKind.wrap_i64]; omega
    have KD : Hid (Kp (fun _ => False) w w.drew) := (Kp.refl (fun _ => False) w).drew
    have KE : Hid (Kp (fun _ => False) w (w.alloc (.cells #[.int .i64 0, .int .i64 0, .int .i64 0] 46)).drew) := ((Kp.refl _ _).alloc _).drew
    have R0 : Hid (Rn.B (w.alloc (.cells #[.int .i64 0, .int .i64 0, .int .i64 0] 46)).drew w.heap.size zRn) := (Rn.B.new w zRn).kp (Kp.refl (fun _ => False) _).drew (fun h => h)
    have e0 : ((n : Int) == 0) = false := by simp; omega
    have hn0 : (0 : Int) ≤ (m : Int) := by omega
    have hn1 : (m : Int) < (n : Int) := by omega
    have zq : w.cell? ⟨q, 0, none⟩ = some (.slice (some ⟨gb, off, none⟩) n cap) := hq.cell 0
    clear hq hs ht hz h h0 hm hE hx x0 x1 x2 hxm hn hml
    go_enter Try.func14, Try.ntmps14
    go_wp2_with fail
    refine wp_region_G (fun U => U.cell? ⟨q, 0, none⟩ = some (.slice (some ⟨gb, off, none⟩) n cap) ∧ U.cell? ⟨gb, off + m * 3, none⟩ = some (.int .i64 x.k) ∧ U.cell? ⟨gb, off + m * 3 + 1, none⟩ = some (.int .i64 x.a) ∧ U.cell? ⟨gb, off + m * 3 + 2, none⟩ = some (.int .i64 x.n)) [13] hmix (HSC.out _ KD.out) (fun h0 => ?_)
    refine wpAnyG_take (i := 0) (oi := { dst := some 10, op := Go.Op.move (Go.Operand.tmp 0), type := 26, pos := "ref.go:132", after := #[], guard := none }) (v := ?ve0) rfl (by kernel_rfl) (fun _ _ _ h => h) (Or.inl ⟨by rfl, ?hye0⟩) h0 ?reste0
    case hye0 => (intro w hSw; (try dsimp only at hSw); obtain ⟨hS0, hS1, hS2, hS3⟩ := hSw; go_simp; try with_reducible rfl)
    try simp only [Act.put, List.setIfInBounds_toArray, List.set_cons_zero, List.set_cons_succ]
    refine wpAnyG_take (i := 1) (oi := { dst := some 11, op := Go.Op.nilCheck (Go.Operand.tmp 10), type := 0, pos := "ref.go:132", after := #[{ on := 0, ground := Go.Ground.data }], guard := none }) (v := ?ve1) rfl (by kernel_rfl) (fun _ _ _ h => h) (Or.inl ⟨by rfl, ?hye1⟩) h0 ?reste1
    case hye1 => (intro w hSw; (try dsimp only at hSw); obtain ⟨hS0, hS1, hS2, hS3⟩ := hSw; go_simp; try with_reducible rfl)
    try simp only [Act.put, List.setIfInBounds_toArray, List.set_cons_zero, List.set_cons_succ]
    refine wpAnyG_take (i := 2) (oi := { dst := some 12, op := Go.Op.fieldAddr 29 (Go.Operand.tmp 11) 0, type := 0, pos := "ref.go:132", after := #[{ on := 1, ground := Go.Ground.data }], guard := none }) (v := ?ve2) rfl (by kernel_rfl) (fun _ _ _ h => h) (Or.inl ⟨by rfl, ?hye2⟩) h0 ?reste2
    case hye2 => (intro w hSw; (try dsimp only at hSw); obtain ⟨hS0, hS1, hS2, hS3⟩ := hSw; go_simp; try with_reducible rfl)
    try simp only [Act.put, List.setIfInBounds_toArray, List.set_cons_zero, List.set_cons_succ]
    refine wpAnyG_take (i := 3) (oi := { dst := some 13, op := Go.Op.load 27 (Go.Operand.tmp 12), type := 27, pos := "ref.go:132", after := #[{ on := 2, ground := Go.Ground.data }], guard := none }) (v := ?ve3) rfl (by kernel_rfl) (fun _ _ _ h => h) (Or.inl ⟨by rfl, ?hye3⟩) h0 ?reste3
    case hye3 => (intro w hSw; (try dsimp only at hSw); obtain ⟨hS0, hS1, hS2, hS3⟩ := hSw; go_simp; try with_reducible rfl)
    try simp only [Act.put, List.setIfInBounds_toArray, List.set_cons_zero, List.set_cons_succ]
    refine wpAnyG_take (i := 4) (oi := { dst := some 14, op := Go.Op.move (Go.Operand.tmp 0), type := 26, pos := "ref.go:132", after := #[], guard := none }) (v := ?ve4) rfl (by kernel_rfl) (fun _ _ _ h => h) (Or.inl ⟨by rfl, ?hye4⟩) h0 ?reste4
    case hye4 => (intro w hSw; (try dsimp only at hSw); obtain ⟨hS0, hS1, hS2, hS3⟩ := hSw; go_simp; try with_reducible rfl)
    try simp only [Act.put, List.setIfInBounds_toArray, List.set_cons_zero, List.set_cons_succ]
    refine wpAnyG_take (i := 5) (oi := { dst := some 15, op := Go.Op.nilCheck (Go.Operand.tmp 14), type := 0, pos := "ref.go:132", after := #[{ on := 4, ground := Go.Ground.data }], guard := none }) (v := ?ve5) rfl (by kernel_rfl) (fun _ _ _ h => h) (Or.inl ⟨by rfl, ?hye5⟩) h0 ?reste5
    case hye5 => (intro w hSw; (try dsimp only at hSw); obtain ⟨hS0, hS1, hS2, hS3⟩ := hSw; go_simp; try with_reducible rfl)
    try simp only [Act.put, List.setIfInBounds_toArray, List.set_cons_zero, List.set_cons_succ]
    refine wpAnyG_take (i := 6) (oi := { dst := some 16, op := Go.Op.fieldAddr 29 (Go.Operand.tmp 15) 0, type := 0, pos := "ref.go:132", after := #[{ on := 5, ground := Go.Ground.data }], guard := none }) (v := ?ve6) rfl (by kernel_rfl) (fun _ _ _ h => h) (Or.inl ⟨by rfl, ?hye6⟩) h0 ?reste6
    case hye6 => (intro w hSw; (try dsimp only at hSw); obtain ⟨hS0, hS1, hS2, hS3⟩ := hSw; go_simp; try with_reducible rfl)
    try simp only [Act.put, List.setIfInBounds_toArray, List.set_cons_zero, List.set_cons_succ]
    refine wpAnyG_take (i := 7) (oi := { dst := some 17, op := Go.Op.load 27 (Go.Operand.tmp 16), type := 27, pos := "ref.go:132", after := #[{ on := 6, ground := Go.Ground.data }], guard := none }) (v := ?ve7) rfl (by kernel_rfl) (fun _ _ _ h => h) (Or.inl ⟨by rfl, ?hye7⟩) h0 ?reste7
    case hye7 => (intro w hSw; (try dsimp only at hSw); obtain ⟨hS0, hS1, hS2, hS3⟩ := hSw; go_simp; try with_reducible rfl)
    try simp only [Act.put, List.setIfInBounds_toArray, List.set_cons_zero, List.set_cons_succ]
    refine wpAnyG_take (i := 8) (oi := { dst := some 18, op := Go.Op.call { callee := Go.Callee.builtin Go.Builtin.len, args := #[Go.Operand.tmp 17], argTypes := #[27] }, type := 3, pos := "ref.go:132", after := #[{ on := 7, ground := Go.Ground.data }], guard := none }) (v := ?ve8) rfl (by kernel_rfl) (fun _ _ _ h => h) (Or.inl ⟨by rfl, ?hye8⟩) h0 ?reste8
    case hye8 => (intro w hSw; (try dsimp only at hSw); obtain ⟨hS0, hS1, hS2, hS3⟩ := hSw; go_simp; try with_reducible rfl)
    try simp only [Act.put, List.setIfInBounds_toArray, List.set_cons_zero, List.set_cons_succ]
    refine wpAnyG_take (i := 9) (oi := { dst := some 19, op := Go.Op.binOp Go.BinOp.sub 3 (Go.Operand.tmp 18) (Go.Operand.const (Go.Value.int Go.IntKind.i64 1)) 3, type := 3, pos := "ref.go:132", after := #[{ on := 8, ground := Go.Ground.data }], guard := none }) (v := ?ve9) rfl (by kernel_rfl) (fun _ _ _ h => h) (Or.inl ⟨by rfl, ?hye9⟩) h0 ?reste9
    case hye9 => (intro w hSw; (try dsimp only at hSw); obtain ⟨hS0, hS1, hS2, hS3⟩ := hSw; go_simp; try with_reducible rfl)
    try simp only [Act.put, List.setIfInBounds_toArray, List.set_cons_zero, List.set_cons_succ]
    refine wpAnyG_take (i := 10) (oi := { dst := some 20, op := Go.Op.indexAddr 27 (Go.Operand.tmp 13) (Go.Operand.tmp 19), type := 0, pos := "ref.go:132", after := #[{ on := 3, ground := Go.Ground.data }, { on := 9, ground := Go.Ground.data }], guard := none }) (v := ?ve10) rfl (by kernel_rfl) (fun _ _ _ h => h) (Or.inl ⟨by rfl, ?hye10⟩) h0 ?reste10
    case hye10 => (intro w hSw; (try dsimp only at hSw); obtain ⟨hS0, hS1, hS2, hS3⟩ := hSw; go_simp; try with_reducible rfl)
    try simp only [Act.put, List.setIfInBounds_toArray, List.set_cons_zero, List.set_cons_succ]
    refine wpAnyG_take (i := 11) (oi := { dst := some 21, op := Go.Op.load 46 (Go.Operand.tmp 20), type := 46, pos := "ref.go:132", after := #[{ on := 10, ground := Go.Ground.data }], guard := none }) (v := ?ve11) rfl (by kernel_rfl) (fun _ _ _ h => h) (Or.inl ⟨by rfl, ?hye11⟩) h0 ?reste11
    case hye11 => (intro w hSw; (try dsimp only at hSw); obtain ⟨hS0, hS1, hS2, hS3⟩ := hSw; go_simp; try with_reducible rfl)
    try simp only [Act.put, List.setIfInBounds_toArray, List.set_cons_zero, List.set_cons_succ]
    refine wpAnyG_one (i := 12) (o := { dst := some 3, op := Go.Op.alloc 46, type := 0, pos := "ref.go:132", after := #[], guard := none }) (by kernel_rfl) rfl (fun K hK => ?_)
    go_simp
    refine hK.out _ _ (fun _ _ => HSC.out _ KE.out) ?_
    clear hK K
    try simp only [Act.put, List.setIfInBounds_toArray, List.set_cons_zero, List.set_cons_succ]
    refine wpAnyG_one (i := 13) (o := { dst := none, op := Go.Op.store 46 (Go.Operand.tmp 3) (Go.Operand.tmp 21), type := 0, pos := "ref.go:132", after := #[{ on := 12, ground := Go.Ground.data }, { on := 11, ground := Go.Ground.data }, { on := 0, ground := Go.Ground.phase }, { on := 1, ground := Go.Ground.phase }, { on := 2, ground := Go.Ground.phase }, { on := 3, ground := Go.Ground.phase }, { on := 4, ground := Go.Ground.phase }, { on := 5, ground := Go.Ground.phase }, { on := 6, ground := Go.Ground.phase }, { on := 7, ground := Go.Ground.phase }, { on := 8, ground := Go.Ground.phase }, { on := 9, ground := Go.Ground.phase }, { on := 10, ground := Go.Ground.phase }, { on := 11, ground := Go.Ground.phase }, { on := 12, ground := Go.Ground.phase }], guard := none }) (by kernel_rfl) rfl (fun K hK => ?_)
    refine ite_pos2 (by rfl) ?_
    refine wp_store_r46 (.tmp 3) (.tmp 21) rfl w.heap.size rfl (e := zRn) (e' := x) rfl R0.out ?_
    intro w6 s6 k6
    have B6 := hid s6
    have K6 : Hid (Kp (fun _ => False) w w6) := KE.out.trans k6 (fun i hi e => by omega)
    refine hK.out _ _ (fun h => absurd h (by decide)) ?_
    clear hK K s6 k6
    try simp only [Act.put, List.setIfInBounds_toArray, List.set_cons_zero, List.set_cons_succ]
    refine wpAnyG_done (by kernel_rfl) ?_ _
    have b1 : w6.cell? ⟨w.heap.size, 1, none⟩ = some (.int .i64 x.a) := B6.out.cell 1
    have b2 : w6.cell? ⟨w.heap.size, 2, none⟩ = some (.int .i64 x.n) := B6.out.cell 2
    go_wp2_with fail
    go_ret
    rw [HE.out]
    exact ⟨rfl, K6.out⟩
end Go.Proofs.Ytopnfjgkgoeleaa

namespace Go.Proofs.Ytopnfjgkgoeleaa
open Go.RowKit
set_option linter.unusedVariables false
set_option linter.unusedSimpArgs false
theorem own_shape {w : World} {base : Nat} {t : TypeId} {v : Value} {n : Nat} {xs : List Value} (h : w.ownsRow base t 1 v n xs) : ∃ a c, v = .slice a n c := by
  rcases h.2 with ⟨e, h0⟩ | ⟨g, cap, cur, e, _⟩
  · exact ⟨none, 0, by rw [e, h0]⟩
  · exact ⟨_, _, e⟩
theorem own_at {w : World} {base j : Nat} {t : TypeId} {v : Value} {xs : List Value} (h : w.ownsRow base t 1 v xs.length xs) (hj : j < xs.length) : ∃ g cap, v = .slice (some ⟨g, 0, none⟩) xs.length cap ∧ w.cell? ⟨g, j, none⟩ = xs[j]? ∧ xs.length ≤ cap := by
  rcases h.2 with ⟨_, h0⟩ | ⟨g, cap, cur, e, _, h2, h3, _, h5, h6⟩
  · omega
  · refine ⟨g, cap, e, ?_, h3⟩
    have h7 : w.cell? ⟨g, j, none⟩ = cur[j]? := St.cell (t := t) h2 j
    rw [h7, ← h6, List.getElem?_take, if_pos (by omega)]
    simp
theorem tb_none (w : World) : Tb w none := fun b off sp e => by cases e
theorem blk_none (k : Nat) : ¬ blk none 0 k := fun h => by have := h.1; omega
theorem Two.goes {W Y : World} {B rq : Nat} {ao : Option Addr} {c : Nat} {l : List Rn} (t : Two W B rq ao c l) {bt : Nat} {ra : Option Addr} {rc : Nat} (k : Kp (fun _ => False) W Y) (s1 : St 73 Y bt #[.slice ao l.length c]) (ha : W.cell? ⟨rq, 0, none⟩ = some (.slice ra l.length rc)) (leave : Int) :
    Calls Try.prog 16 #[.func (.func 57) #[] #[.pointer (some ⟨bt, 0, none⟩)], .slice ra l.length rc, .int .i64 leave] Y fun e w' => e = .returned (.bool true) ∧ Kp (fun _ => False) Y w' := by
  obtain ⟨a1, c1, g1, g2, g3, _⟩ := t.rl.mem
  rw [g1.cell 0] at ha
  simp only [List.getElem?_toArray, List.getElem?_cons_zero, Option.some.injEq, Value.slice.injEq] at ha
  obtain ⟨rfl, _, rfl⟩ := ha
  refine goes_val Y bt ao c l t.rg.len (t.rg.lst.1.kp k (fun _ _ _ _ h => h)) s1 _ _ (g2.kp k (fun _ _ _ _ h => h)) (fun b off e hp ro => ?_) leave
  rcases ro with rfl | ⟨h1, h2⟩
  · obtain ⟨cur, hc⟩ := (g3 b off none e).2
    exact apart_types (hc.kp k (fun h => h)) s1 (by decide)
  · subst e
    exact t.ap b off _ _ (g1.cell 0) ⟨by have := t.rg.lst.2.1; omega, h2⟩
theorem Pj.goes_old {w : World} {rq b0 B : Nat} {ao : Option Addr} {c : Nat} {l : List Rn} {vo vw : Value} {OL : List Od} {Z Y : World} (p : Pj w rq b0 B ao c l vo vw OL Z) {o : Od} (ho : o ∈ OL) {bt : Nat} (k : Kp (fun _ => False) Z Y) (s1 : St 73 Y bt #[.slice o.ao o.l.length o.c]) (leave : Int) :
    Calls Try.prog 16 #[.func (.func 57) #[] #[.pointer (some ⟨bt, 0, none⟩)], .slice o.ra o.l.length o.rc, .int .i64 leave] Y fun e w' => e = .returned (.bool true) ∧ Kp (fun _ => False) Y w' := by
  obtain ⟨g1, g2, g3⟩ := p.old o ho
  obtain ⟨a1, a2, a3⟩ := p.pr o ho
  refine goes_val Y bt o.ao o.c o.l g1.len (g1.lst.1.kp k (fun _ _ _ _ h => h)) s1 _ _ (a1.kp k (fun _ _ _ _ h => h)) (fun b off e hp ro => ?_) leave
  rcases ro with rfl | ⟨h1, h2⟩
  · obtain ⟨cur, hc⟩ := (a2 b off none e).2
    exact apart_types (hc.kp k (fun h => h)) s1 (by decide)
  · exact (a3 b off e).1 ⟨by have := g1.lst.2.1; omega, h2⟩
set_option maxRecDepth 100000 in
set_option maxHeartbeats 8000000 in
theorem plays_short (a : Option Addr) (n c : Nat) (w : World) (h : 40 < n) (hn : n ≤ 9223372036854775807) : Calls Try.prog 3 #[.slice a n c] w fun e w' => e = .returned (.bool true) ∧ Kp (fun _ => False) w w' := by
  have HW := hid (works_any w)
  have d1 : (40 : Int) < (n : Int) := by omega
  have d2 : decide ((40 : Int) < (n : Int)) = true := by simpa using d1
  go_enter Try.func3, Try.ntmps3
  go_wp2_with fail
  refine HW.out.mono ?_
  rintro e w1 ⟨rfl, b1⟩
  go_wp2_with fail
  go_ret
  exact ⟨rfl, Kp.of_below b1⟩
set_option maxRecDepth 100000 in
set_option maxHeartbeats 16000000 in
theorem plays_ok (a : Option Addr) (n c : Nat) (S : List Sp) (w : World) (hS : S.length = n) (hn : n ≤ 40) (hss : Srcs w a S) (hok : ∀ s ∈ S, s.ok w) : Calls Try.prog 3 #[.slice a n c] w fun e w' => e = .returned (.bool true) ∧ Kp (fun _ => False) w w' := by
  have HNW := hid (new_any w)
  have HWK : Hid (∀ U, Calls Try.prog 8 #[] U fun e w' => e = .returned (.bool true) ∧ Kp (fun _ => False) U w') := fun U => (works_any U).mono (fun e w' ⟨h1, h2⟩ => ⟨h1, Kp.of_below h2⟩)
  have HNO := hid nothing_any
  have HSS := hid hss
  have HOK := hid hok
  have HSN := hid hS
  clear hss hok hS
  have d1 : ¬ (40 : Int) < (n : Int) := by omega
  have d2 : decide ((40 : Int) < (n : Int)) = false := by simpa using d1
  go_enter Try.func3, Try.ntmps3
  go_wp2_with fail
  refine HNW.out.mono ?_
  rintro e w1 ⟨rfl, r1, b1, z1⟩
  have P2 : Hid (Pj w w1.heap.size (w1.heap.size + 1) w.heap.size none 0 [] (.slice none 0 0) (.slice none 0 0) [] (w1.alloc (.cells #[.slice none 0 0] 29))) := by
    have k1 : Kp (fun _ => False) w w1 := Kp.of_below b1
    have ka : Kp (fun _ => False) w1 (w1.alloc (.cells #[.slice none 0 0] 29)) := (Kp.refl _ _).alloc _
    refine ⟨k1.trans ka (fun _ _ h => h), ⟨⟨St.kp r1 ka (fun h => h), Lst.nil _, ⟨by simp, by simp⟩, by simp⟩, ⟨⟨none, 0, St.new 29 w1 _, Srcr.nil _ _, tb_none _, Nat.le_refl _, by unfold maxLen; omega, fun _ => rfl⟩, ⟨by simp, by simp⟩, by simp⟩, blk_none _, fun b off n cap _ => blk_none b⟩, Nat.le_refl _, fun i hi => absurd (rmb_blk hi) (blk_none i), k1.size, fun b hb => absurd hb (blk_none b), fun o ho => by simp at ho, World.ownsRow_nil _ _ _ _, World.ownsRow_nil _ _ _ _, fun o ho => by simp at ho, by omega, by rw [World.size_alloc]; omega⟩
  obtain ⟨B0, hB0⟩ : ∃ B0, B0 = w.heap.size := ⟨_, rfl⟩
  obtain ⟨rq, hrq⟩ : ∃ rq, rq = w1.heap.size := ⟨_, rfl⟩
  rw [← hrq] at P2
  rw [← hB0] at P2 ⊢
  have HRQ := hid hrq
  clear hB0 r1 b1 z1 HNW d1 d2 hrq
  go_wp2_with fail
  rw [← HRQ.out]
  clear HRQ
  generalize w1.alloc (.cells #[.slice none 0 0] 29) = w2 at *
  go_loopw [3, 5, 6, 7] (fun v3 vo vw i wr => ∃ (k B : Nat) (ao : Option Addr) (c : Nat) (l : List Rn) (OL : List Od), i = .int .i64 (k : Int) ∧ v3 = .pointer (some ⟨B, 0, none⟩) ∧ k ≤ n ∧ OL.length ≤ k ∧ Hid (Pj w rq (rq + 1) B ao c l vo vw OL wr)) (fun _ _ _ i _ => n - (intOf i).toNat)
  case atStart => exact ⟨0, B0, none, 0, [], [], rfl, rfl, Nat.zero_le _, Nat.le_refl _, P2⟩
  case round =>
    clear P2
    obtain ⟨k, B, ao, pc, l, OL, rfl, rfl, hk, hol, PP⟩ := hrel
    by_cases hlt : k < n
    · have hkl : k < S.length := by have := HSN.out; omega
      obtain ⟨sb, off, hbe, hsb, hcs⟩ := HSS.out.at hkl
      have hok := HOK.out _ (gds_mem hkl)
      obtain ⟨⟨kd, lv, sao, sn, scap, sL, sp, smm, sq, sbo, skn, skc, sK⟩, hse⟩ : ∃ s, S.getD k zSp = s := ⟨_, rfl⟩
      rw [hse] at hcs hok
      have HSC : Hid (∀ U, Kp (fun _ => False) w U → U.cell? ⟨sb, off + k * 7, none⟩ = some (.int .i64 kd) ∧ U.cell? ⟨sb, off + k * 7 + 1, none⟩ = some (.int .i64 lv) ∧ U.cell? ⟨sb, off + k * 7 + 2, none⟩ = some (.slice sao sn scap) ∧ U.cell? ⟨sb, off + k * 7 + 3, none⟩ = some (.int .i64 sp) ∧ U.cell? ⟨sb, off + k * 7 + 4, none⟩ = some (.int .i64 smm) ∧ U.cell? ⟨sb, off + k * 7 + 5, none⟩ = some (.int .i64 sq) ∧ U.cell? ⟨sb, off + k * 7 + 6, none⟩ = some (.slice sbo skn skc)) := fun U ku => ⟨kp_cell ku (hcs 0 _ rfl) (fun h => h), kp_cell ku (hcs 1 _ rfl) (fun h => h), kp_cell ku (hcs 2 _ rfl) (fun h => h), kp_cell ku (hcs 3 _ rfl) (fun h => h), kp_cell ku (hcs 4 _ rfl) (fun h => h), kp_cell ku (hcs 5 _ rfl) (fun h => h), kp_cell ku (hcs 6 _ rfl) (fun h => h)⟩
      have HO := hid hok
      clear hcs hok hse hkl
      subst hbe
      obtain ⟨y0, y1, y2, _, _, _, y6⟩ := HSC.out wr PP.out.k
      have hsl : sn ≤ 9223372036854775807 := by have h1 := HO.out.lc; have h2 := HO.out.cm; unfold maxLen at h2; dsimp only at h1 h2; omega
      have hsk : skn ≤ 9223372036854775807 := by have h1 := HO.out.kk; have h2 := HO.out.km; unfold maxLen at h2; dsimp only at h1 h2; omega
      have hki : (k : Int) < (n : Int) := by omega
      have hk0 : (0 : Int) ≤ (k : Int) := by omega
      by_cases hsn : 40 < sn
      · have e1 : (40 : Int) < (sn : Int) := by omega
        have e2 : decide ((40 : Int) < (sn : Int)) = true := by simpa using e1
        go_wp2_with fail
        refine (HWK.out wr).mono ?_
        rintro e w5 ⟨rfl, k5⟩
        go_wp2_with fail
        go_ret
        exact ⟨rfl, PP.out.k.trans k5 (fun _ _ h => h)⟩
      · have e1 : ¬ (40 : Int) < (sn : Int) := by omega
        have e2 : decide ((40 : Int) < (sn : Int)) = false := by simpa using e1
        by_cases hsq : 40 < skn
        · have e3 : (40 : Int) < (skn : Int) := by omega
          have e4 : decide ((40 : Int) < (skn : Int)) = true := by simpa using e3
          go_wp2_with fail
          refine (HWK.out wr).mono ?_
          rintro e w5 ⟨rfl, k5⟩
          go_wp2_with fail
          go_ret
          exact ⟨rfl, PP.out.k.trans k5 (fun _ _ h => h)⟩
        · have e3 : ¬ (40 : Int) < (skn : Int) := by omega
          have e4 : decide ((40 : Int) < (skn : Int)) = false := by simpa using e3
          go_upto_if 45 with fail
          go_cut [3, 5, 6] from 17 to 112 (fun v3 vo vw wx => ∃ (B : Nat) (ao : Option Addr) (c : Nat) (l : List Rn) (OL : List Od), v3 = .pointer (some ⟨B, 0, none⟩) ∧ OL.length ≤ k + 1 ∧ Hid (Pj w rq (rq + 1) B ao c l vo vw OL wx))
          case first =>
            by_cases h9 : kd = 10
            · subst h9
              obtain ⟨ar, cr, g1, g2, g3, g4⟩ := PP.out.two.rl.mem
              have ha : wr.cell? ⟨rq, 0, none⟩ = some (.slice ar l.length cr) := g1.cell 0
              have hml : (OL.map Od.p).length ≤ 100 := by rw [List.length_map]; omega
              have hml2 : (OL.map Od.v).length ≤ 100 := by rw [List.length_map]; omega
              have ka : Kp (fun _ => False) wr (wr.alloc (.cells #[.pointer (some ⟨B, 0, none⟩)] 24)) := (Kp.refl _ _).alloc _
              obtain ⟨v1, x1, rr, o1, k1, f1⟩ := own_appq (ty := 30) (own_kp PP.out.po ka (fun _ _ h => h)) (St.new 24 wr #[.pointer (some ⟨B, 0, none⟩)]) rfl (by omega) (Nat.le_trans PP.out.b0.2 ka.size)
              have K1 : Hid (Kp (fun i => u5.ownBlock = some i) wr x1) := (ka.mono (fun _ _ h => h.elim)).trans k1 (fun _ _ h => h)
              have KR1 : Hid (Kp (Rws u5 u6) wr x1) := K1.out.mono (fun _ _ h => .inl h)
              have O1 := hid o1
              have ha1 : x1.cell? ⟨rq, 0, none⟩ = some (.slice ar l.length cr) := (PP.out.core KR1.out).2.1.trans ha
              have kb : Kp (fun _ => False) x1 (x1.alloc (.cells #[.slice ar l.length cr] 29)) := (Kp.refl _ _).alloc _
              have PW1 : Hid (x1.ownsRow (rq + 1) 29 1 u6 (OL.map Od.v).length (OL.map Od.v)) := own_kp PP.out.pw K1.out (fun g e h => by
                obtain ⟨cur, hc, _⟩ := ownb PP.out.po h
                obtain ⟨cur2, hc2, _⟩ := ownb PP.out.pw e
                exact apart_types hc hc2 (by decide))
              obtain ⟨v2, x2, rr2, o2, k2, f2⟩ := own_appw (ty := 31) (own_kp PW1.out kb (fun _ _ h => h)) (St.new 29 x1 #[.slice ar l.length cr]) rfl (by omega) (Nat.le_trans PP.out.b0.2 (Nat.le_trans K1.out.size kb.size))
              have K12 : Hid (Kp (fun i => u6.ownBlock = some i) x1 x2) := (kb.mono (fun _ _ h => h.elim)).trans k2 (fun _ _ h => h)
              have KR2 : Hid (Kp (Rws u5 u6) wr x2) := KR1.out.trans (K12.out.mono (fun _ _ h => .inr h)) (fun _ _ h => h)
              have HNW : Hid (∀ i, Rws v1 v2 i → Rws u5 u6 i ∨ wr.heap.size ≤ i) := fun i e => by
                have s1 := ka.size
                have s2 := K1.out.size
                have s3 := kb.size
                rcases e with e | e
                · rcases f1 with f | f
                  · exact .inl (.inl (f ▸ e))
                  · rw [f] at e
                    cases e
                    exact .inr s1
                · rcases f2 with f | f
                  · exact .inl (.inr (f ▸ e))
                  · rw [f] at e
                    cases e
                    exact .inr (Nat.le_trans s2 s3)
              have O2 := hid o2
              have O12 : Hid (x2.ownsRow (rq + 1) 24 1 v1 (OL.map Od.p ++ [Value.pointer (some ⟨B, 0, none⟩)]).length (OL.map Od.p ++ [Value.pointer (some ⟨B, 0, none⟩)])) := own_kp O1.out K12.out (fun g e h => by
                obtain ⟨cur, hc, _⟩ := ownb PW1.out h
                obtain ⟨cur2, hc2, _⟩ := ownb O1.out e
                exact apart_types hc hc2 (by decide))
              have L2 := hid (PP.out.core KR2.out).1
              have HCY := hid (copy_any x2 B ao pc l L2.out.rg)
              clear o1 k1 ka g1 g2 g3 g4 o2 k2 kb f1 f2 PW1
              go_wp2_with (first | (at_builtin; refine Lib.wpList_append_run _ rfl _ _ _ _ rfl _ _ rfl rfl _ _ rr ?_; clear rr) | (at_builtin; refine Lib.wpList_append_run _ rfl _ _ _ _ rfl _ _ rfl rfl _ _ rr2 ?_; clear rr2))
              refine HCY.out.mono ?_
              rintro e x3 ⟨C, rfl, hC, r3, b3⟩
              have k3 : Kp (fun _ => False) x2 x3 := Kp.of_below b3
              have HP3 := hid (PP.out.rows ha KR2.out O12.out O2.out HNW.out k3 hC r3)
              have HSM := hid (same_call x3 C B ao ao l.length pc l l true r3 (L2.out.rg.kp0 k3) (.inl ⟨rfl, rfl⟩))
              obtain ⟨g, cp, e1, hcell, hcap⟩ := own_at (j := OL.length) O12.out (by simp)
              have hcell3 : x3.cell? ⟨g, OL.length, none⟩ = some (.pointer (some ⟨B, 0, none⟩)) := kp_cell k3 (by rw [hcell]; simp) (fun h => h)
              simp only [List.length_append, List.length_map, List.length_singleton] at e1 hcap
              subst e1
              clear k3 r3 b3 HCY O12 hcell hcap O1 O2 ha ha1 K1 KR1 K12 KR2 HNW L2 hC
              obtain ⟨m, hm⟩ : ∃ m, m = OL.length := ⟨_, rfl⟩
              rw [← hm] at hcell3 ⊢
              have hm4 : m ≤ 40 := by omega
              have w1 : IntKind.i64.wrap ((m : Int) + 1 - 1) = (m : Int) := by rw [IntKind.wrap_i64]; omega
              have w2 : IntKind.i64.wrap (((m + 1 : Nat) : Int) - 1) = (m : Int) := by rw [IntKind.wrap_i64]; omega
              have w3 : (0 : Int) ≤ (m : Int) := by omega
              have w4 : (m : Int) < (m : Int) + 1 := by omega
              have w5 : (m : Int) < ((m + 1 : Nat) : Int) := by omega
              have HM := hid hm
              clear hm
              go_wp2_with fail
              refine HSM.out.mono ?_
              rintro e x4 ⟨rfl, b4⟩
              have HP4 := hid (HP3.out.same (Kp.of_below b4))
              clear b4 HSM HP3 hcell3
              go_wp2_with fail
              go_meet
              case rel => exact ⟨C, ao, l.length, l, OL ++ [⟨B, ao, pc, l, ar, cr⟩], rfl, by simp; omega, by rw [HM.out] at *; exact HP4⟩
            · have e9 : (kd == 10) = false := by simpa using h9
              go_wp2_with fail
              go_meet
              case rel => exact ⟨B, ao, pc, l, OL, rfl, by omega, PP⟩
          case rest =>
            clear PP y0 y1 y2 y6
            obtain ⟨B, ao, pc, l, OL, rfl, hol2, PC⟩ := hcut
            have HST := hid (step_any wc B rq ao pc l ⟨kd, lv, sao, sn, scap, sL, sp, smm, sq, sbo, skn, skc, sK⟩ (by dsimp only; omega) (by dsimp only; omega) ⟨HO.out.ln, HO.out.sr.kp PC.out.k (fun _ _ _ _ h => h), HO.out.i6, HO.out.lc, HO.out.cm, HO.out.no, HO.out.p6, HO.out.m6, HO.out.q6, HO.out.kl, HO.out.ks.kp0 PC.out.k, HO.out.kk, HO.out.km⟩ (fun b bo e hp => by
              obtain ⟨b2, o2, e2, hb2, _⟩ := HO.out.sr hp
              dsimp only at e e2
              rw [e] at e2
              cases e2
              exact ⟨by have := PC.out.lB; omega, fun hf => by have := PC.out.lR b hf; omega, by have := PC.out.lq; omega⟩) PC.out.two)
            have HPC : Hid (∀ (l' : List Rn) Y, Ch wc B rq ao l.length pc l' Y → ∃ ao' c', Pj w rq (rq + 1) B ao' c' l' _ _ OL Y) := fun l' Y c => PC.out.ch c
            unfold Sp.cs at HST
            dsimp only at HST
            obtain ⟨y0, y1, y2, y3, y4, y5, y6⟩ := HSC.out wc PC.out.k
            go_wp2_with fail
            refine HST.out.mono ?_
            rintro e w5 ⟨rfl, l', c5⟩
            obtain ⟨ao5, c5', p5⟩ := HPC.out l' w5 c5
            have P5 := hid p5
            have HE1 : Hid (Calls Try.prog 13 #[.pointer (some ⟨B, 0, none⟩)] w5 fun e w' => e = .returned (.int .i64 (endL l')) ∧ Below w5.heap.size w5 w') := end_call w5 B ao5 c5' l' p5.two.rg
            clear c5 HPC HST PC y0 y1 y2 y3 y4 y5 y6 p5
            go_wp2_with fail
            refine HE1.out.mono ?_
            rintro e w6 ⟨rfl, b6⟩
            have P6 := hid (P5.out.same (Kp.of_below b6))
            have HE2 := hid (rend_any w6 rq l' P6.out.two.rl)
            clear b6 HE1 P5
            generalize endL l' = el at *
            go_wp2_with fail
            refine HE2.out.mono ?_
            rintro e w7 ⟨rfl, k7⟩
            have P7 := hid (P6.out.same k7)
            clear k7 HE2 P6
            have HAL := hid (all_any w7 B ao5 l'.length c5' P7.out.two.rg.rb)
            go_wp2_with fail
            refine HAL.out.mono ?_
            rintro e w8 ⟨bt, rfl, hbt, s8, b8⟩
            have k8 : Kp (fun _ => False) w7 w8 := Kp.of_below b8
            have P8 := hid (P7.out.same k8)
            have S8 := hid s8
            clear HAL s8 b8 hbt k8 P7
            obtain ⟨ar, cr, g1, g2, g3, g4⟩ := P8.out.two.rl.mem
            have ha : w8.cell? ⟨rq, 0, none⟩ = some (.slice ar l'.length cr) := g1.cell 0
            have HGO : Hid (∀ U, Kp (fun _ => False) w8 U → ∀ lv : Int, Calls Try.prog 16 #[.func (.func 57) #[] #[.pointer (some ⟨bt, 0, none⟩)], .slice ar l'.length cr, .int .i64 lv] U fun e w' => e = .returned (.bool true) ∧ Kp (fun _ => False) U w') := fun U ku lv => P8.out.two.goes ku (S8.out.kp ku (fun h => h)) ha lv
            have HPR : Hid (∀ U, Kp (fun _ => False) w8 U → U.cell? ⟨rq, 0, none⟩ = some (.slice ar l'.length cr) ∧ U.cell? ⟨sb, off + k * 7 + 1, none⟩ = some (.int .i64 lv)) := fun U ku => ⟨(g1.kp ku (fun h => h)).cell 0, (HSC.out U (P8.out.k.trans ku (fun _ _ h => h))).2.1⟩
            have KD : Hid (Kp (fun _ => False) w8 w8.drew) := (Kp.refl (fun _ => False) w8).drew
            have cc0 := HPR.out w8 (Kp.refl _ _)
            have cd0 := HPR.out w8.drew KD.out
            have HG8 := hid (HGO.out w8.drew KD.out lv)
            have hnl4 : l'.length ≤ 65536 := P8.out.two.rg.len
            clear g1 g2 g3 g4 ha S8
            obtain ⟨nl, hnl⟩ : ∃ nl, nl = l'.length := ⟨_, rfl⟩
            rw [← hnl] at HGO HPR cc0 cd0 HG8 hnl4
            clear hnl
            go_wp2_with fail
            go_region_held3 (fun U : World => U.cell? ⟨rq, 0, none⟩ = some (.slice ar nl cr) ∧ U.cell? ⟨sb, off + k * 7 + 1, none⟩ = some (.int .i64 lv)) (first | exact cc0 | exact cd0 | exact cc9 | exact cca) (first | (go_at_call 16; refine HG8.out.mono ?_; rintro e w9 ⟨rfl, k9⟩; have K9 := hid (KD.out.trans k9 (fun _ _ h => h)); have cc9 := HPR.out w9 K9.out; have HG9 := hid (HGO.out w9 K9.out 0); clear k9 HG8) | (go_at_call 16; refine HG9.out.mono ?_; rintro e wa ⟨rfl, ka⟩; have KA := hid (K9.out.trans ka (fun _ _ h => h)); have cca := HPR.out wa KA.out; clear ka HG9))
            go_wp2_with fail
            go_roundw
            case rel => exact ⟨k + 1, B, ao5, c5', l', OL, by go_num, rfl, hlt, hol2, P8.out.same KA.out⟩
            case measure => simp [intOf]; omega
    · obtain rfl : k = n := by omega
      clear hlt HSS HOK HSN
      obtain ⟨V, hV⟩ : ∃ V, V = wr := ⟨_, rfl⟩
      subst hV
      obtain ⟨a10, c10, e10⟩ := own_shape PP.out.po
      obtain ⟨a11, c11, e11⟩ := own_shape PP.out.pw
      rw [List.length_map] at e10 e11
      subst e10 e11
      obtain ⟨m, hm⟩ : ∃ m, m = OL.length := ⟨_, rfl⟩
      rw [← hm] at PP hol ⊢
      have HM := hid hm
      have hki : ¬ (k : Int) < (k : Int) := by omega
      clear hm
      go_wp2_with fail
      go_loopw [9] (fun i wz => ∃ (j : Nat), i = .int .i64 (j : Int) ∧ j ≤ m ∧ Hid (Kp (fun _ => False) V wz)) (fun i _ => m - (intOf i).toNat)
      case atStart => exact ⟨0, rfl, Nat.zero_le _, Kp.refl _ _⟩
      case round =>
        obtain ⟨j, rfl, hj, HK⟩ := hrel
        by_cases hlt : j < m
        · have hjl : j < OL.length := by have := HM.out; omega
          obtain ⟨o, ho⟩ : ∃ o, OL[j]? = some o := ⟨_, List.getElem?_eq_getElem hjl⟩
          have hmem : o ∈ OL := List.mem_of_getElem? ho
          obtain ⟨g, cg, e1, hg, hcg⟩ := own_at (j := j) PP.out.po (by rw [List.length_map]; exact hjl)
          obtain ⟨h, ch, e2, hh, hch⟩ := own_at (j := j) PP.out.pw (by rw [List.length_map]; exact hjl)
          rw [List.getElem?_map, ho] at hg hh
          simp only [Option.map_some, Value.slice.injEq] at hg hh e1 e2
          obtain ⟨ar, cr, g1, g2, g3, g4⟩ := PP.out.two.rl.mem
          obtain ⟨lo, _, _⟩ := PP.out.old o hmem
          obtain ⟨so, qo, _⟩ := PP.out.pr o hmem
          have e1a := e1.1
          have e1c := e1.2.2
          have e2a := e2.1
          have e2c := e2.2.2
          clear e1 e2
          subst e1a e1c e2a e2c
          have HPR : Hid (∀ U, Kp (fun _ => False) V U → U.cell? ⟨g, j, none⟩ = some (.pointer (some ⟨o.B, 0, none⟩)) ∧ U.cell? ⟨h, j, none⟩ = some (.slice o.ra o.l.length o.rc) ∧ U.cell? ⟨rq, 0, none⟩ = some (.slice ar l.length cr)) := fun U ku => ⟨kp_cell ku hg (fun x => x), kp_cell ku hh (fun x => x), (g1.kp ku (fun x => x)).cell 0⟩
          have HAL : Hid (∀ U, Kp (fun _ => False) V U → Calls Try.prog 15 #[.pointer (some ⟨o.B, 0, none⟩)] U (AlR (.slice o.ao o.l.length o.c) U)) := fun U ku => all_any U o.B o.ao o.l.length o.c (lo.kp0 ku).rb
          have HGO : Hid (∀ U bt, Kp (fun _ => False) V U → St 73 U bt #[.slice o.ao o.l.length o.c] → Calls Try.prog 16 #[.func (.func 57) #[] #[.pointer (some ⟨bt, 0, none⟩)], .slice o.ra o.l.length o.rc, .int .i64 0] U fun e w' => e = .returned (.bool true) ∧ Kp (fun _ => False) U w') := fun U bt ku s5 => PP.out.goes_old hmem ku s5 0
          obtain ⟨bl, hbl⟩ : ∃ bl : Bool, (bl = true ∧ o.l = l) ∨ (bl = false ∧ o.l ≠ l) := by
            by_cases hq : o.l = l
            · exact ⟨true, .inl ⟨rfl, hq⟩⟩
            · exact ⟨false, .inr ⟨rfl, hq⟩⟩
          have HSM : Hid (∀ U, Kp (fun _ => False) V U → Calls Try.prog 11 #[.pointer (some ⟨o.B, 0, none⟩), .pointer (some ⟨B, 0, none⟩)] U (SmR U bl)) := fun U ku => same_call U o.B B o.ao ao o.c pc o.l l bl (lo.kp0 ku) (PP.out.two.rg.kp0 ku) hbl
          have HRS : Hid (∀ U, Kp (fun _ => False) V U → Calls Try.prog 17 #[.slice o.ra o.l.length o.rc, .slice ar l.length cr] U fun e w' => e = .returned (.bool bl) ∧ Kp (fun _ => False) U w') := fun U ku => (rsame_any U o.ra ar _ _ o.rc cr o.l l rfl rfl (by have := lo.len; omega) (by have := PP.out.two.rg.len; omega) (so.kp ku (fun _ _ _ _ x => x)) (g2.kp ku (fun _ _ _ _ x => x))).mono (by
            rintro e w' ⟨r, rfl, hr, k⟩
            refine ⟨?_, k⟩
            rcases hbl with ⟨rfl, hq⟩ | ⟨rfl, hq⟩
            · rw [hr.2 hq]
            · cases r
              · rfl
              · exact absurd (hr.1 rfl) hq)
          have HSO : Hid (∀ U, Kp (fun _ => False) V U → Calls Try.prog 11 #[.pointer (some ⟨o.B, 0, none⟩), .pointer none] U fun e w' => e = .returned (.bool false) ∧ Kp (fun _ => False) U w') := fun U ku => same_non (lo.kp0 ku)
          have KD : Hid (Kp (fun _ => False) V wr.drew) := HK.out.drew
          have cc0 := HPR.out wr HK.out
          have cd0 := HPR.out wr.drew KD.out
          have HA0 := hid (HAL.out wr.drew KD.out)
          have hj0 : (0 : Int) ≤ (j : Int) := by omega
          have hji : (j : Int) < (m : Int) := by omega
          clear g1 g2 g3 g4 lo so qo hg hh hcg hch hmem ho HAL hjl hbl
          go_wp2_with fail
          go_region_held3 (fun U : World => U.cell? ⟨g, j, none⟩ = some (.pointer (some ⟨o.B, 0, none⟩)) ∧ U.cell? ⟨h, j, none⟩ = some (.slice o.ra o.l.length o.rc) ∧ U.cell? ⟨rq, 0, none⟩ = some (.slice ar l.length cr)) (first | exact cc0 | exact cd0 | exact cc5 | exact cc6 | exact cc7 | exact cc8 | exact cc9) (first | (go_at_call 15; refine HA0.out.mono ?_; rintro e w5 ⟨bt, rfl, hbt, s5, b5⟩; have K5 := hid (KD.out.trans (Kp.of_below (F := fun _ => False) b5) (fun _ _ h => h)); have cc5 := HPR.out w5 K5.out; have HG5 := hid (HGO.out w5 bt K5.out s5); clear b5 s5 hbt HA0) | (go_at_call 16; refine HG5.out.mono ?_; rintro e w6 ⟨rfl, k6⟩; have K6 := hid (K5.out.trans k6 (fun _ _ h => h)); have cc6 := HPR.out w6 K6.out; have HS6 := hid (HSM.out w6 K6.out); clear k6 HG5) | (go_at_call 11; refine HS6.out.mono ?_; rintro e w7 ⟨rfl, b7⟩; have K7 := hid (K6.out.trans (Kp.of_below (F := fun _ => False) b7) (fun _ _ h => h)); have cc7 := HPR.out w7 K7.out; have HR7 := hid (HRS.out w7 K7.out); clear b7 HS6) | (go_at_call 17; refine HR7.out.mono ?_; rintro e w8 ⟨rfl, k8⟩; have K8 := hid (K7.out.trans k8 (fun _ _ h => h)); have cc8 := HPR.out w8 K8.out; have HO8 := hid (HSO.out w8 K8.out); clear k8 HR7) | (go_at_call 11; refine HO8.out.mono ?_; rintro e w9 ⟨rfl, k9⟩; have K9 := hid (K8.out.trans k9 (fun _ _ h => h)); have cc9 := HPR.out w9 K9.out; clear k9 HO8))
          go_wp2_with fail
          go_roundw
          case rel => exact ⟨j + 1, by go_num, by omega, K9⟩
          case measure => simp [intOf]; omega
        · obtain rfl : j = m := by omega
          have hji : ¬ (j : Int) < (j : Int) := by omega
          have K1 := hid (PP.out.k.trans HK.out (fun _ _ h => h))
          have HN1 := hid (HNO.out wr)
          go_wp2_with fail
          refine HN1.out.mono ?_
          rintro e w5 ⟨rfl, k5⟩
          have K5 := hid (K1.out.trans k5 (fun _ _ h => h))
          have HW5 := hid (HWK.out w5)
          clear k5 HN1
          go_wp2_with fail
          refine HW5.out.mono ?_
          rintro e w6 ⟨rfl, k6⟩
          have K6 := hid (K5.out.trans k6 (fun _ _ h => h))
          clear k6 HW5
          go_wp2_with fail
          go_ret
          exact ⟨rfl, K6.out⟩
theorem plays_any (a : Option Addr) (n c : Nat) (S : List Sp) (w : World) (hS : n = S.length) (hn : n ≤ 9223372036854775807) (hss : Srcs w a S) (hok : ∀ s ∈ S, s.ok w) : Calls Try.prog 3 #[.slice a n c] w fun e w' => e = .returned (.bool true) ∧ Below w.heap.size w w' := by
  have hb : Calls Try.prog 3 #[.slice a n c] w fun e w' => e = .returned (.bool true) ∧ Kp (fun _ => False) w w' := by
    by_cases h : 40 < n
    · exact plays_short a n c w h hn
    · exact plays_ok a n c S w hS.symm (by omega) hss hok
  exact hb.mono fun e w' ⟨h1, k⟩ => ⟨h1, k.below (Nat.le_refl _) (fun _ h => h.elim)⟩
end Go.Proofs.Ytopnfjgkgoeleaa

namespace Go.Proofs.Ytopnfjgkgoeleaa.regionsPlay
open Go.ChangeShapes Go.WideShapes Go.ChangeAt Go.RowKit
set_option linter.unusedVariables false

theorem own : ownKnob Try.prog.godebug = none := by kernel_rfl
theorem laidOut : laidOutB Try.prog = true := by kernel_rfl
/-! From the walk to the row. -/
set_option maxRecDepth 100000 in
theorem lifted (os : Os) (started : os.Started) (H : Type) (enc : TypeId × Value → H) :
    ReturnsInHanded {} Try.checked os 3 .any (Rows.regionsPlaySpec.pre6 enc Try.prog Try.f3 Rows.regionsPlayRow.domain false) (Rows.regionsPlaySpec.post enc Try.prog Try.f3 false true false false) := by
  refine returnsInHanded_of_change (C := Try.checked) own started (by kernel_rfl) Try.func3
    (ChangeSpec.witness6 (enc := enc) (C := Try.checked) false ⟨#[], #[.slice none 0 0], []⟩ 8 (by kernel_rfl) (by kernel_rfl) (by kernel_rfl) (by kernel_rfl)) ?_
  intro W base args ds gs before hval0 hW hcnd _
  have hval : ∀ (j : Nat) t v, Try.f3.params[j]? = some t → args[j]? = some v → Value.okWide Try.prog W .any base t v := hval0
  have hW' := hW
  obtain ⟨p, q, hA0, hV, rfl, hfz, hnd⟩ := hW
  have hA : DataW.TrodAll enc Try.prog W 0 (fun _ => true) true Try.f3.params.toList args.toList ds p := hA0
  rw [Try.params3] at hA hval
  obtain ⟨v0, vs0, d0, ds0, p0, q0, hargs, rfl, rfl, h0, r0⟩ := trodAll_cons hA
  obtain ⟨rfl, rfl, rfl⟩ := trodAll_nil r0
  obtain rfl : args = #[v0] := by cases args; simp_all
  obtain ⟨rfl, rfl⟩ := trodVars_none hV
  obtain ⟨a0, len0, cap0, rfl⟩ := okWide_slice Try.underlying22 (hval 0 22 v0 rfl rfl)
  have k0 := h0
  have lt0 : ∀ x ∈ p0, x.block < W.heap.size := by obtain ⟨m, hm⟩ := k0; exact DataW.trod_lt m _ _ _ hm
  obtain ⟨S, ln0, src0, ok0, lc0, cm0⟩ : ∃ S : List Sp, len0 = S.length ∧ Srcs W a0 S ∧ (∀ s ∈ S, s.ok W) ∧ len0 ≤ cap0 ∧ cap0 ≤ maxLen := by
    obtain ⟨fuel, hf⟩ := h0
    exact open_steps (by simpa [Value.cells] using hf)
  have m0 : len0 ≤ 9223372036854775807 := by unfold maxLen at cm0; omega
  clear hA0 hval0
  simp only [List.append_nil] at hW'
  refine (plays_any a0 _ cap0 S W ln0 m0 src0 ok0).mono fun e W' ⟨he, bel⟩ => ?_
  subst he
  exact ⟨_, rfl, _, _, _, [], _, [], hW', trodAll_mk1 (shut_bool Try.underlying4 _), (trodAll_cons_mk (Below.trod laidOut (by kernel_rfl) (of_decide_eq_true (by kernel_rfl)) k0 bel lt0) trodAll_mk0), rfl, bel.frame _, fun h => by cases h⟩

theorem over : Rows.regionsPlayRow.holds Try.pinned (OpenSpec.ofChange Rows.regionsPlaySpec) :=
  OpenClaim.holds_of_wide 3 Try.f3 rfl rfl rfl rfl rfl rfl rfl ⟨rfl, rfl, rfl, rfl, rfl⟩ rfl rfl rfl rfl rfl (by kernel_rfl) Try.func3 (by kernel_rfl)
    (of_decide_eq_true (by kernel_rfl)) (by unfold Func.isWrapper; first | (rw [if_pos (by decide +kernel)]; kernel_rfl) | (rw [if_neg (by decide +kernel)]; exact ⟨rfl, rfl⟩))
    (fun os started H enc _ => lifted os started H enc)
end Go.Proofs.Ytopnfjgkgoeleaa.regionsPlay
namespace Go.Proofs.Ytopnfjgkgoeleaa
/-- THE STATEMENT. -/
theorem regionsPlay_holds : Rows.RegionsPlaySaid := regionsPlay.over
#print axioms regionsPlay_holds
end Go.Proofs.Ytopnfjgkgoeleaa
