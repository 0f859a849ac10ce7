/- tables: the document's reading of a list of Rn. -/
import Derived.Test.YtjjhkfhppoioiaaNx
import Derived.Test.YtjjhkfhppoioiaaSbR
import Derived.Test.YtjjhkfhppoioiaaTpR
import Derived.BigQuiet
import Derived.Test.YtjjhkfhppoioiaaRoRx
namespace Go.Proofs.Ytjjhkfhppoioiaa
open Go.RowKit
set_option linter.unusedVariables false
theorem cutr {A B : List Int} {k : Nat} (h : A.length = k) : (A ++ B).take k = A ∧ (A ++ B).drop k = B := by
  subst h
  exact ⟨List.take_left, List.drop_left⟩
/-- What the document reads of the front. -/
def Rn.dd (K : Nat) (ys : List Int) : Rn := ⟨strOfNums ((ys.drop 1).take K), (ys.drop (1 + K)).getD 0 0, (ys.drop (1 + K)).getD 1 0, nn (((ys.drop (1 + K)).drop 2).take 8), nn (((ys.drop (1 + K)).drop 10).take 4)⟩
theorem Rn.dd_i6 (K : Nat) (ys : List Int) (hb : Byt ys) (hK : K ≤ 255) : (Rn.dd K ys).i6 := by
  have h1 : (Rn.dd K ys).nm.size ≤ 9223372036854775807 := by
    show (strOfNums ((ys.drop 1).take K)).size ≤ _
    rw [nums_size, List.length_take]
    omega
  have hM := hb.drop (1 + K)
  have g0 := hM.get 0
  have g1 := hM.get 1
  exact ⟨⟨by show -9223372036854775808 ≤ (ys.drop (1 + K)).getD 0 0; omega, by show (ys.drop (1 + K)).getD 0 0 ≤ 9223372036854775807; omega⟩, ⟨by show -9223372036854775808 ≤ (ys.drop (1 + K)).getD 1 0; omega, by show (ys.drop (1 + K)).getD 1 0 ≤ 9223372036854775807; omega⟩, nn_i6 _ ((hM.drop 2).take 8), nn_i6 _ ((hM.drop 10).take 4), h1⟩
theorem Rn.dd_enc {b : Int} {e : Rn} (h : e.May b) (T : List Int) : (e.enc ++ T).getD 0 0 = (e.nm.size : Int) ∧ Rn.dd e.nm.size (e.enc ++ T) = e ∧ (e.enc ++ T).drop (15 + e.nm.size) = T := by
  have hz := e.enc_len
  have hbd := Rn.bd h
  have hsm : e.c ≤ 268435456 ∧ e.d ≤ 268435456 := by
    have := h.2.1.bd (by omega)
    omega
  refine ⟨by simp [Rn.enc, nmb], ?_, ?_⟩
  · have h1 : (e.enc ++ T).drop 1 = byts e.nm ++ (num e.a 1 ++ (num e.b 1 ++ (num e.c 8 ++ (num e.d 4 ++ T)))) := by simp [Rn.enc, nmb]
    have h2 : (e.enc ++ T).drop (1 + e.nm.size) = num e.a 1 ++ (num e.b 1 ++ (num e.c 8 ++ (num e.d 4 ++ T))) := by
      rw [← List.drop_drop, h1]
      exact (cutr (byts_length e.nm)).2
    unfold Rn.dd
    rw [h2, h1, (cutr (byts_length e.nm)).1, str_byts]
    have q1 : num e.a 1 = [e.a] := by
      have h := hbd.1
      rw [p1] at h
      have : num e.a 1 = [e.a % 256] := by simp [num]
      rw [this, Int.emod_eq_of_lt h.1 h.2]
    have q2 : num e.b 1 = [e.b] := by
      have h := hbd.2.1
      rw [p1] at h
      have : num e.b 1 = [e.b % 256] := by simp [num]
      rw [this, Int.emod_eq_of_lt h.1 h.2]
    rw [q1, q2]
    have r1 : ([e.a] ++ ([e.b] ++ (num e.c 8 ++ (num e.d 4 ++ T)))).drop 2 = num e.c 8 ++ (num e.d 4 ++ T) := by simp
    have r2 : ([e.a] ++ ([e.b] ++ (num e.c 8 ++ (num e.d 4 ++ T)))).drop 10 = num e.d 4 ++ T := by
      rw [show (10 : Nat) = 2 + 8 from rfl, ← List.drop_drop, r1]
      exact (cutr (num_length e.c 8)).2
    rw [r1, r2, (cutr (num_length e.c 8)).1, (cutr (num_length e.d 4)).1, nn_num hbd.2.2.1.1 hbd.2.2.1.2 hsm.1, nn_num hbd.2.2.2.1 hbd.2.2.2.2 hsm.2]
    simp
  · exact (cutr hz).2
/-- What is known of the rest, if the bytes are a list's. -/
def Imr (b : Int) (xs : List Int) (n : Nat) (k : Nat) (ls : List Rn) (ys : List Int) : Prop := ∀ m, IsL (Rn.May b) Rn.nm Rn.enc xs n m → ls = m.take k ∧ ys = encs Rn.enc (m.drop k)
theorem Imr.one {b : Int} {xs : List Int} {n k : Nat} {ls : List Rn} {ys : List Int} (h : Imr b xs n k ls ys) (hk : k < n) {m : List Rn} (hm : IsL (Rn.May b) Rn.nm Rn.enc xs n m) : ∃ e : Rn, e.May b ∧ m.take (k + 1) = ls ++ [e] ∧ ys = e.enc ++ encs Rn.enc (m.drop (k + 1)) := by
  obtain ⟨h1, h2⟩ := h m hm
  have hl : k < m.length := by have := hm.2.1; omega
  refine ⟨m[k], hm.1.1 _ (List.getElem_mem _), ?_, ?_⟩
  · rw [List.take_succ_eq_append_getElem hl, ← h1]
  · rw [h2, List.drop_eq_getElem_cons hl, encs_cons]
theorem Imr.short {b : Int} {xs : List Int} {n k : Nat} {ls : List Rn} {ys : List Int} (h : Imr b xs n k ls ys) (hk : k < n) (hs : ys = [] ∨ (ys.length : Int) < 15 + ys.getD 0 0) : ∀ m, ¬ IsL (Rn.May b) Rn.nm Rn.enc xs n m := by
  intro m hm
  obtain ⟨e, he, _, h2⟩ := h.one hk hm
  have hl := e.enc_len
  rcases hs with rfl | hs
  · have := congrArg List.length h2
    rw [List.length_append, hl] at this
    simp at this
    omega
  · rw [h2, (Rn.dd_enc he _).1, List.length_append, hl] at hs
    omega
theorem Imr.next {b : Int} {xs : List Int} {n k : Nat} {ls : List Rn} {ys : List Int} (h : Imr b xs n k ls ys) (hk : k < n) {K : Nat} (hK : ys.getD 0 0 = (K : Int)) : Imr b xs n (k + 1) (ls ++ [Rn.dd K ys]) (ys.drop (15 + K)) := by
  intro m hm
  obtain ⟨e, he, h1, h2⟩ := h.one hk hm
  obtain ⟨g1, g2, g3⟩ := Rn.dd_enc he (encs Rn.enc (m.drop (k + 1)))
  rw [← h2] at g1 g2 g3
  obtain rfl : K = e.nm.size := by omega
  rw [g2, g3, h1]
  exact ⟨rfl, rfl⟩
theorem Imr.start (b : Int) (xs : List Int) (n : Nat) : Imr b xs n 0 [] xs := fun m hm => ⟨rfl, by simpa using hm.2.2.2⟩
/-- At the end: what was read, put again. -/
theorem Imr.fin {b : Int} {xs : List Int} {n : Nat} {ls : List Rn} {ys : List Int} (h : Imr b xs n n ls ys) (hl : ls.length = n) (hb : Bt b) {bs : List Int} {er : Int} (ho : Out (Rn.May b) Rn.nm Rn.enc b ls bs er) : (er = 0 ∧ bs = xs ∧ IsL (Rn.May b) Rn.nm Rn.enc xs n ls) ∨ (¬ (er = 0 ∧ bs = xs) ∧ ∀ m, ¬ IsL (Rn.May b) Rn.nm Rn.enc xs n m) := by
  by_cases hq : er = 0 ∧ bs = xs
  · left
    refine ⟨hq.1, hq.2, ?_⟩
    rcases ho with ⟨_, _, h0⟩ | ⟨_, _, _, _, h0⟩ | ⟨_, h2, h3, h4, _⟩
    · omega
    · omega
    · exact ⟨h2, by omega, h3, by rw [← hq.2]; exact h4⟩
  · right
    refine ⟨hq, fun m hm => hq ?_⟩
    obtain ⟨h1, _⟩ := h m hm
    have hml : m.length = n := by have := hm.2.1; omega
    rw [← hml, List.take_length] at h1
    subst h1
    have := ho.same (Or.inr (Or.inr ⟨hb, hm.1, hm.2.2.1, rfl, rfl⟩))
    exact ⟨this.2, this.1.trans hm.2.2.2.symm⟩
end Go.Proofs.Ytjjhkfhppoioiaa

namespace Go.Proofs.Ytjjhkfhppoioiaa
open Go.RowKit
set_option linter.unusedVariables false
set_option maxRecDepth 100000 in
set_option maxHeartbeats 4000000 in
theorem same_r (l : List Rn) (ao bo : Option Addr) (n cap dap : Nat) (w : World) (hn : n = l.length) (hc : n ≤ cap) (hd : n ≤ dap) (hn2 : n ≤ 100000) (hA : Srcr w ao l) (hB : Srcr w bo l) :
    Calls Try.prog 15 #[.slice ao n cap, .slice bo n dap] w fun e w' => e = .returned (.bool true) ∧ Below w.heap.size w w' := by
  have HN := hid hn
  have HA := hid hA
  have HB := hid hB
  clear hn hA hB
  go_enter Try.func15, Try.ntmps15
  go_wp2_with fail
  go_loopw [5] (fun i wr => ∃ k : Nat, k ≤ n ∧ i = .int .i64 (k : Int) ∧ Below w.heap.size w wr) (fun i _ => n - (intOf i).toNat)
  case atStart => exact ⟨0, Nat.zero_le _, rfl, Below.refl _ _⟩
  case round =>
    obtain ⟨k, hk, rfl, hb⟩ := hrel
    have HBL := hid hb
    clear hb
    by_cases hlt : k < n
    · obtain ⟨ga, oa, rfl, _, x0, x1, x2, x3, x4⟩ := (HA.out.below HBL.out).at (i := k) (by have := HN.out; omega)
      obtain ⟨gb, ob, rfl, _, y0, y1, y2, y3, y4⟩ := (HB.out.below HBL.out).at (i := k) (by have := HN.out; omega)
      generalize l.getD k zRn = e at *
      obtain ⟨nm, a, bb, c, d⟩ := e
      dsimp only at x0 x1 x2 x3 x4 y0 y1 y2 y3 y4
      go_wp2_with fail
      go_quiet (fail)
      go_wp2_with fail
      go_roundw
      case rel => exact ⟨k + 1, by omega, by go_num, HBL.out.trans ((drewN_kp (fun _ => False) wr _).below HBL.out.size (fun _ x => x.elim))⟩
      case measure => simp [intOf]; omega
    · go_wp2_with fail
      go_ret
      exact ⟨rfl, HBL.out⟩
theorem Srcr.news {w : World} {ao : Option Addr} {l : List Rn} (h : Srcr w ao l) : ∀ ad, ao = some ad → ∀ j u, (flr l)[j]? = some u → w.cell? (ad.add j) = some u := by
  rintro ad rfl j u hu
  have hj : j < (flr l).length := (List.getElem?_eq_some_iff.1 hu).1
  rw [flr_len] at hj
  obtain ⟨b, off, e, _, hc⟩ := h (by omega)
  cases e
  rw [add_o]
  exact hc j u hu
theorem Srcr.pre {w : World} {ao : Option Addr} {l m : List Rn} (h : Srcr w ao (l ++ m)) : Srcr w ao l := by
  intro hp
  obtain ⟨b, off, e, hb, hc⟩ := h (by simp; omega)
  refine ⟨b, off, e, hb, fun j u hu => hc j u ?_⟩
  rw [flr_append, List.getElem?_append_left (List.getElem?_eq_some_iff.1 hu).1]
  exact hu
def zzr : Rn := ⟨⟨#[122, 122]⟩, 0, 0, 0, 0⟩
/-- What a list with one more behind it lies in. -/
theorem Ownr.more {w : World} {base : Nat} {v : Value} {l : List Rn} (h : Ownr w base v (l ++ [zzr])) : ∃ g cap, v = .slice (some ⟨g, 0, none⟩) (l.length + 1) cap ∧ l.length + 1 ≤ cap ∧ cap ≤ maxLen ∧ g < w.heap.size ∧ Srcr w (some ⟨g, 0, none⟩) l ∧ w.cell? ⟨g, l.length * 5, none⟩ = some (.string ⟨#[122, 122]⟩) := by
  obtain ⟨g, cap, e⟩ := own_slice5 h (by simp)
  obtain ⟨ao, cap', e2, h1, h2, h3, _⟩ := h.src
  rw [e2] at e
  simp only [List.length_append, List.length_singleton] at e e2 h2
  cases e
  obtain ⟨b, off, e3, hb, c0, _⟩ := h1.at (i := l.length) (by simp)
  cases e3
  refine ⟨_, _, e2, h2, h3, hb, h1.pre, ?_⟩
  rw [Nat.zero_add] at c0
  rw [c0]
  simp [List.getD, zzr]
theorem law_ownr {w : World} {base n : Nat} {v : Value} {l : List Rn} (hn : n = l.length) (h : w.ownsRow base 38 5 v (0 + n + 1) (([] ++ flr l) ++ Rn.cl zzr)) : Ownr w base v (l ++ [zzr]) := by
  have : flr (l ++ [zzr]) = ([] ++ flr l) ++ Rn.cl zzr := by simp [flr]
  show w.ownsRow base 38 5 v (l ++ [zzr]).length (flr (l ++ [zzr]))
  rw [this, List.length_append, List.length_singleton, ← hn]
  rw [Nat.zero_add] at h
  exact h
theorem law_belr {w w1 w2 : World} {v : Value} {n : Nat} {xs : List Value} {o : Obj} (b1 : Below w.heap.size w w1) (h : w1.ownsRow w.heap.size 38 5 v n xs) (k : Kp (fun i => v.ownBlock = some i) (w1.alloc o) w2) : Below w.heap.size w w2 :=
  (b1.alloc b1.size o).trans (k.below (by rw [World.size_alloc]; have := b1.size; omega) (fun i e => (h.lt i e).1))
end Go.Proofs.Ytjjhkfhppoioiaa

namespace Go.Proofs.Ytjjhkfhppoioiaa
open Go.RowKit
set_option linter.unusedVariables false
theorem str_ner {a b : List Int} (ha : Byt a) (hb : Byt b) (h : a ≠ b) : ((strOfNums a).toList == (strOfNums b).toList) = false := by
  cases hq : ((strOfNums a).toList == (strOfNums b).toList) with
  | false => rfl
  | true => exact absurd (by rw [← nums_byts a ha, str_eqr hq, nums_byts b hb]) h
theorem wpList_convert_rw_gr {P : Program} {w : World} {ops : Array Oper} {rest : List Oper} {o : Oper} {a : Act} {Q : Exit → Act → World → Prop} (hw : Region.wanted o (yielded ops a.tmps) = true) (x : Operand) (src dst e : TypeId)
    (ho : o.op = .convert src dst x) (hs : P.underlying src = some (.slice e)) (he : P.underlying e = some (.int .u8)) (hd : P.underlying dst = some .string)
    (ao : Option Addr) (len cap : Nat) (hx : a.eval x = .slice ao len cap) (xs : List Int) (hlen : xs.length = len) (hpos : 0 < len → ∃ b off, ao = some ⟨b, off, none⟩ ∧ ∀ i, i < len → w.cell? ⟨b, off + i, none⟩ = some (.int .u8 (xs.getD i 0)))
    (h : wpList P ops Q rest (a.put o.dst (.string (strOfNums xs))) w) : wpList P ops Q (o :: rest) a w := by
  refine wpList_step fun K hK => ?_
  rw [if_pos hw]
  have hrun := run_convert_rw (P := P) w src dst e hs he hd ao len cap xs hlen hpos
  unfold Oper.wp
  simp only [execOp, ho, hx, hrun, Sem.run_bind, Sem.run_pure, Result.andThen_ok]
  exact hK _ _ h
theorem rPutz_r (b : Int) (l : List Rn) (ao : Option Addr) (n cap : Nat) (w : World) (hb : Bt b) (hn : n = l.length) (hcap : n ≤ cap) (hn2 : n ≤ 2000) (hS : Srcr w ao l) (h6 : ∀ e ∈ l, e.i6) :
    Calls Try.prog 14 #[.int .i64 b, .slice ao n cap] w fun e w' => ∃ bo m c bs er, e = .returned (.tuple #[.slice bo m c, .int .i64 er]) ∧ m = bs.length ∧ Out (Rn.May b) Rn.nm Rn.enc b l bs er ∧ Src w' bo bs ∧ Byt bs ∧ Below w.heap.size w w' := by
  refine (rput_ok_r b l ao n cap w hb hn hcap hn2 hS h6).mono ?_
  rintro e w' ⟨v, bs, er, rfl, h1, h2, h3⟩
  obtain ⟨bo, c, rfl, h4, _⟩ := h2.sl.src
  refine ⟨bo, _, c, bs, er, rfl, rfl, h1, h4, ?_, h3⟩
  rcases h1 with ⟨_, rfl, _⟩ | ⟨_, _, _, rfl, _⟩ | ⟨_, hL, _, rfl, _⟩
  · intro z hz; simp at hz
  · intro z hz; simp at hz
  · intro z hz
    obtain ⟨e, he, hz⟩ := List.mem_flatMap.1 hz
    exact Rn.enc_byt (hL.1 e he).1.2.1 z hz
/-- What the loop holds. -/
structure DIr (b : Int) (xs : List Int) (w : World) (n k : Nat) (lv rv : Value) (W : World) : Prop where
  le : k ≤ n
  bl : Below w.heap.size w W
  ex : ∃ (ls : List Rn) (ys : List Int) (ao : Option Addr) (cap : Nat), ls.length = k ∧ Ownr W w.heap.size lv ls ∧ (∀ e ∈ ls, e.i6) ∧ rv = .slice ao ys.length cap ∧ Src w ao ys ∧ ys.length ≤ cap ∧ cap ≤ maxLen ∧ Byt ys ∧ 15 * k + ys.length ≤ 20000 ∧ Imr b xs n k ls ys
def RdPr (b : Int) (xs : List Int) (n : Nat) (P : Nat) (e : Ending) (w' : World) : Prop := ∃ v ok, e = .returned (.tuple #[v, .bool ok]) ∧ ((ok = true ∧ ∃ l, IsL (Rn.May b) Rn.nm Rn.enc xs n l ∧ Ownr w' P v l) ∨ (ok = false ∧ ∀ m, ¬ IsL (Rn.May b) Rn.nm Rn.enc xs n m))
theorem RdPr.no {b : Int} {xs : List Int} {n P : Nat} {w' : World} (h : ∀ m, ¬ IsL (Rn.May b) Rn.nm Rn.enc xs n m) : RdPr b xs n P (.returned (.tuple #[.slice none 0 0, .bool false])) w' := ⟨_, _, rfl, Or.inr ⟨rfl, h⟩⟩
def q18r10_0 : Oper := { dst := some 49, op := Go.Op.move (Go.Operand.tmp 8), type := 36, pos := "ref.go:141", after := #[], guard := none }
def q18r10_1 : Oper := { dst := some 50, op := Go.Op.move (Go.Operand.tmp 12), type := 26, pos := "ref.go:141", after := #[], guard := none }
def q18r10_2 : Oper := { dst := some 51, op := Go.Op.convert 26 9 (Go.Operand.tmp 50), type := 9, pos := "ref.go:141", after := #[{ on := 1, ground := Go.Ground.data }], guard := none }
def q18r10_3 : Oper := { dst := some 52, op := Go.Op.move (Go.Operand.tmp 13), type := 26, pos := "ref.go:141", after := #[], guard := none }
def q18r10_4 : Oper := { dst := some 53, op := Go.Op.indexAddr 26 (Go.Operand.tmp 52) (Go.Operand.const (Go.Value.int Go.IntKind.i64 0)), type := 0, pos := "ref.go:141", after := #[{ on := 3, ground := Go.Ground.data }], guard := none }
def q18r10_5 : Oper := { dst := some 54, op := Go.Op.load 5 (Go.Operand.tmp 53), type := 5, pos := "ref.go:141", after := #[{ on := 4, ground := Go.Ground.data }], guard := none }
def q18r10_6 : Oper := { dst := some 55, op := Go.Op.convert 5 3 (Go.Operand.tmp 54), type := 3, pos := "ref.go:141", after := #[{ on := 5, ground := Go.Ground.data }], guard := none }
def q18r10_7 : Oper := { dst := some 56, op := Go.Op.move (Go.Operand.tmp 13), type := 26, pos := "ref.go:141", after := #[], guard := none }
def q18r10_8 : Oper := { dst := some 57, op := Go.Op.indexAddr 26 (Go.Operand.tmp 56) (Go.Operand.const (Go.Value.int Go.IntKind.i64 1)), type := 0, pos := "ref.go:141", after := #[{ on := 7, ground := Go.Ground.data }], guard := none }
def q18r10_9 : Oper := { dst := some 58, op := Go.Op.load 5 (Go.Operand.tmp 57), type := 5, pos := "ref.go:141", after := #[{ on := 8, ground := Go.Ground.data }], guard := none }
def q18r10_10 : Oper := { dst := some 59, op := Go.Op.convert 5 3 (Go.Operand.tmp 58), type := 3, pos := "ref.go:141", after := #[{ on := 9, ground := Go.Ground.data }], guard := none }
def q18r10_11 : Oper := { dst := some 60, op := Go.Op.move (Go.Operand.tmp 13), type := 26, pos := "ref.go:141", after := #[], guard := none }
def q18r10_12 : Oper := { dst := some 61, op := Go.Op.slice 26 (Go.Operand.tmp 60) (some (Go.Operand.const (Go.Value.int Go.IntKind.i64 2))) (some (Go.Operand.const (Go.Value.int Go.IntKind.i64 10))) none, type := 26, pos := "ref.go:141", after := #[{ on := 11, ground := Go.Ground.data }], guard := none }
def q18r10_13 : Oper := { dst := some 62, op := Go.Op.call { callee := Go.Callee.value (Go.Operand.func 32), args := #[Go.Operand.tmp 61], argTypes := #[26] }, type := 2, pos := "ref.go:141", after := #[{ on := 12, ground := Go.Ground.data }], guard := none }
def q18r10_14 : Oper := { dst := some 63, op := Go.Op.move (Go.Operand.tmp 13), type := 26, pos := "ref.go:141", after := #[], guard := none }
def q18r10_15 : Oper := { dst := some 64, op := Go.Op.slice 26 (Go.Operand.tmp 63) (some (Go.Operand.const (Go.Value.int Go.IntKind.i64 10))) (some (Go.Operand.const (Go.Value.int Go.IntKind.i64 14))) none, type := 26, pos := "ref.go:141", after := #[{ on := 14, ground := Go.Ground.data }], guard := none }
def q18r10_16 : Oper := { dst := some 65, op := Go.Op.call { callee := Go.Callee.value (Go.Operand.func 32), args := #[Go.Operand.tmp 64], argTypes := #[26] }, type := 2, pos := "ref.go:141", after := #[{ on := 15, ground := Go.Ground.data }, { on := 13, ground := Go.Ground.chain }], guard := none }
def q18r10_17 : Oper := { dst := some 66, op := Go.Op.build 38 #[(0, Go.Operand.tmp 51), (1, Go.Operand.tmp 55), (2, Go.Operand.tmp 59), (3, Go.Operand.tmp 62), (4, Go.Operand.tmp 65)], type := 38, pos := "ref.go:141", after := #[{ on := 2, ground := Go.Ground.data }, { on := 6, ground := Go.Ground.data }, { on := 10, ground := Go.Ground.data }, { on := 13, ground := Go.Ground.data }, { on := 16, ground := Go.Ground.data }], guard := none }
def q18r10_18 : Oper := { dst := some 67, op := Go.Op.buildSlice 36 1 #[(0, Go.Operand.tmp 66)], type := 36, pos := "ref.go:141", after := #[{ on := 17, ground := Go.Ground.data }], guard := none }
def q18r10_19 : Oper := { dst := some 68, op := Go.Op.call { callee := Go.Callee.builtin Go.Builtin.append, args := #[Go.Operand.tmp 49, Go.Operand.tmp 67], argTypes := #[36, 36] }, type := 36, pos := "ref.go:141", after := #[{ on := 0, ground := Go.Ground.data }, { on := 18, ground := Go.Ground.data }, { on := 16, ground := Go.Ground.chain }], guard := none }
def q18r10_20 : Oper := { dst := some 8, op := Go.Op.assign (Go.Operand.tmp 68), type := 36, pos := "ref.go:141", after := #[{ on := 19, ground := Go.Ground.data }, { on := 19, ground := Go.Ground.chain }, { on := 0, ground := Go.Ground.phase }, { on := 1, ground := Go.Ground.phase }, { on := 2, ground := Go.Ground.phase }, { on := 3, ground := Go.Ground.phase }, { on := 4, ground := Go.Ground.phase }, { on := 5, ground := Go.Ground.phase }, { on := 6, ground := Go.Ground.phase }, { on := 7, ground := Go.Ground.phase }, { on := 8, ground := Go.Ground.phase }, { on := 9, ground := Go.Ground.phase }, { on := 10, ground := Go.Ground.phase }, { on := 11, ground := Go.Ground.phase }, { on := 12, ground := Go.Ground.phase }, { on := 13, ground := Go.Ground.phase }, { on := 14, ground := Go.Ground.phase }, { on := 15, ground := Go.Ground.phase }, { on := 16, ground := Go.Ground.phase }, { on := 17, ground := Go.Ground.phase }, { on := 18, ground := Go.Ground.phase }, { on := 19, ground := Go.Ground.phase }], guard := none }
def o18r10 : Array Oper := #[q18r10_0, q18r10_1, q18r10_2, q18r10_3, q18r10_4, q18r10_5, q18r10_6, q18r10_7, q18r10_8, q18r10_9, q18r10_10, q18r10_11, q18r10_12, q18r10_13, q18r10_14, q18r10_15, q18r10_16, q18r10_17, q18r10_18, q18r10_19, q18r10_20]
def p18r10_21 : List (Nat × Oper) := []
def p18r10_20 : List (Nat × Oper) := (0, q18r10_20) :: p18r10_21
def p18r10_19 : List (Nat × Oper) := (1, q18r10_19) :: p18r10_20
def p18r10_18 : List (Nat × Oper) := (1, q18r10_18) :: p18r10_19
def p18r10_17 : List (Nat × Oper) := (0, q18r10_17) :: p18r10_18
def p18r10_16 : List (Nat × Oper) := (1, q18r10_16) :: p18r10_17
def p18r10_15 : List (Nat × Oper) := (1, q18r10_13) :: p18r10_16
def p18r10_14 : List (Nat × Oper) := (0, q18r10_15) :: p18r10_15
def p18r10_13 : List (Nat × Oper) := (0, q18r10_14) :: p18r10_14
def p18r10_12 : List (Nat × Oper) := (0, q18r10_12) :: p18r10_13
def p18r10_11 : List (Nat × Oper) := (0, q18r10_11) :: p18r10_12
def p18r10_10 : List (Nat × Oper) := (0, q18r10_10) :: p18r10_11
def p18r10_9 : List (Nat × Oper) := (0, q18r10_9) :: p18r10_10
def p18r10_8 : List (Nat × Oper) := (0, q18r10_8) :: p18r10_9
def p18r10_7 : List (Nat × Oper) := (0, q18r10_7) :: p18r10_8
def p18r10_6 : List (Nat × Oper) := (0, q18r10_6) :: p18r10_7
def p18r10_5 : List (Nat × Oper) := (0, q18r10_5) :: p18r10_6
def p18r10_4 : List (Nat × Oper) := (0, q18r10_4) :: p18r10_5
def p18r10_3 : List (Nat × Oper) := (0, q18r10_3) :: p18r10_4
def p18r10_2 : List (Nat × Oper) := (0, q18r10_2) :: p18r10_3
def p18r10_1 : List (Nat × Oper) := (0, q18r10_1) :: p18r10_2
def p18r10_0 : List (Nat × Oper) := (0, q18r10_0) :: p18r10_1
def c18r10 : List (Nat × Nat) := [(0, 0), (0, 1), (0, 2), (0, 3), (0, 4), (0, 5), (0, 6), (0, 7), (0, 8), (0, 9), (0, 10), (0, 11), (0, 12), (0, 14), (0, 15), (1, 13), (1, 16), (0, 17), (1, 18), (1, 19), (0, 20)]
theorem b18r10 : (Region.noSelect o18r10 && (c18r10.length == o18r10.size) && planB o18r10 [] c18r10 (Array.replicate o18r10.size false)) = true := by kernel_rfl
theorem d18r10 : (c18r10.map fun p => (p.1, o18r10[p.2]?)) = (p18r10_0.map fun p => (p.1, some p.2)) := by kernel_rfl
set_option maxRecDepth 100000 in
set_option maxHeartbeats 16000000 in
theorem rread_r (b : Int) (n N0 cap0 : Nat) (xs : List Int) (ao0 : Option Addr) (w : World) (hb : Bt b) (hnn : n ≤ 9223372036854775807) (hN : N0 = xs.length) (hby : Byt xs) (hl : N0 ≤ 20000) (hcap : N0 ≤ cap0) (hcm : cap0 ≤ maxLen) (hS : Src w ao0 xs) :
    Calls Try.prog 18 #[.int .i64 b, .slice ao0 N0 cap0, .int .i64 (n : Int)] w fun e w' => RdPr b xs n w.heap.size e w' ∧ Below w.heap.size w w' := by
  have HN := hid hN
  have HBY := hid hby
  have HS := hid hS
  have HBT := hid hb
  clear hN hby hS hb
  go_enter Try.func18, Try.ntmps18
  go_wp2_with fail
  go_loopw [8, 9, 10] (fun lv rv i wr => ∃ k : Nat, i = .int .i64 (k : Int) ∧ DIr b xs w n k lv rv wr) (fun _ _ i _ => n - (intOf i).toNat)
  case atStart => exact ⟨0, rfl, Nat.zero_le _, Below.refl _ _, [], xs, ao0, cap0, rfl, Ownr.nil _ _, fun e he => by simp at he, by rw [HN.out], HS.out, by have := HN.out; omega, hcm, HBY.out, by have := HN.out; omega, Imr.start b xs n⟩
  case round =>
    obtain ⟨k, rfl, hi⟩ := hrel
    have hkn := hi.le
    have HBL := hid hi.bl
    obtain ⟨ls, ys, ao, cap, h1, h2, h3, hrv, h4, h5, h6, h7, h8, h9⟩ := hi.ex
    clear hi
    obtain ⟨YL, hYL⟩ : ∃ Y, Y = ys.length := ⟨_, rfl⟩
    rw [← hYL] at hrv h5 h8
    have HLS := hid h1
    have HOW := hid h2
    have HI6 := hid h3
    have HSY := hid h4
    have HB := hid h7
    have HIM := hid h9
    have HYL := hid hYL
    have hkb : k ≤ 2000 := by omega
    obtain ⟨lv, hlv⟩ : ∃ o, o = u8 := ⟨_, rfl⟩
    rw [← hlv] at HOW ⊢
    unfold maxLen at h6
    clear h1 h2 h3 h4 h7 h9 hYL hlv
    subst hrv
    obtain ⟨wo, hwo⟩ : ∃ x, x = wr := ⟨_, rfl⟩
    subst hwo
    by_cases hk : k < n
    · by_cases hy0 : YL = 0
      · have HNO := hid (RdPr.no (P := w.heap.size) (w' := wo) (HIM.out.short hk (Or.inl (List.eq_nil_of_length_eq_zero (by have := HYL.out; omega)))))
        subst hy0
        go_wp2_with fail
        go_ret2
        exact ⟨HNO.out, HBL.out⟩
      · obtain ⟨g, off, rfl, hcs⟩ := HSY.out (by have := HYL.out; omega)
        have hgl : g < w.heap.size := block_lt_of_cell (hcs 0 (by have := HYL.out; omega))
        have HC : Hid (∀ W, Below w.heap.size w W → ∀ i, i < ys.length → W.cell? ⟨g, off + i, none⟩ = some (.int .u8 (ys.getD i 0))) := fun W h i hi => by rw [h.cell hgl]; exact hcs i hi
        have hz := HB.out.get 0
        obtain ⟨K, hK⟩ := Int.eq_ofNat_of_zero_le hz.1
        have HK := hid hK
        rw [hK] at hz
        have hK255 : K ≤ 255 := by omega
        have c0 := HC.out wo HBL.out 0 (by have := HYL.out; omega)
        rw [hK, Nat.add_zero] at c0
        have hwz : IntKind.i64.wrap (K : Int) = (K : Int) := by rw [IntKind.wrap_i64]; omega
        clear hK hz hcs
        by_cases hsh : YL < 15 + K
        · have HNO := hid (RdPr.no (P := w.heap.size) (w' := wo) (HIM.out.short hk (Or.inr (by rw [HK.out]; have := HYL.out; omega))))
          go_wp2_with fail
          go_ret2
          exact ⟨HNO.out, HBL.out⟩
        · have hnc : ¬ cap = 1 := by omega
          have HNX := hid (HIM.out.next hk HK.out)
          have HD6 := hid (Rn.dd_i6 K ys HB.out hK255)
          have HTK := hid (rtake g (off + 1) (YL - 1) (cap - 1) K wo (by omega) (by omega) (by omega))
          clear HIM HK
          go_wp2_with (first | (go_at_call 31; refine HTK.out.mono ?_; rintro e w1 ⟨rfl, b1⟩; have B1 := hid (HBL.out.trans (b1.mono HBL.out.size)); have OW1 : Hid (Ownr w1 w.heap.size lv ls) := ownsRow_kp (F := fun _ => False) HOW.out (Kp.of_below b1) (fun _ _ x => x); clear b1))
          clear HOW HBL c0 HTK
          obtain ⟨M, hM⟩ : ∃ M, M = YL - 1 - K := ⟨_, rfl⟩
          obtain ⟨C, hC⟩ : ∃ C, C = cap - 1 - K := ⟨_, rfl⟩
          rw [← hM, ← hC]
          have hm1 : 14 ≤ M := by omega
          have hm2 : M ≤ C := by omega
          have hm3 : C ≤ 9223372036854775807 := by omega
          have hm4 : 15 + K + (M - 14) = YL := by omega
          have HMC := hid hM
          have HCC := hid hC
          clear hM hC
          have hi2 : (2 : Int) ≤ (C : Int) := by omega
          have hj2 : 2 ≤ C := by omega
          have hi10 : (10 : Int) ≤ (C : Int) := by omega
          have hj10 : 10 ≤ C := by omega
          have hi14 : (14 : Int) ≤ (C : Int) := by omega
          have hj14 : 14 ≤ C := by omega
          have hn2 : ¬ C = 2 := by omega
          have hn10 : ¬ C = 10 := by omega
          have ho0 : (0 : Int) < (M : Int) := by omega
          have ho1 : (1 : Int) < (M : Int) := by omega
          have hp1 : 1 < M := by omega
          have hp0 : 0 < M := by omega
          have Z0 : Below w.heap.size w w1.drew := B1.out.drew
          obtain ⟨s0, hs0⟩ : ∃ s, s = strOfNums ((ys.drop 1).take K) := ⟨_, rfl⟩
          have HCV : Hid (∀ W, Below w.heap.size w W → (convert 26 9 (.slice (some ⟨g, off + 1, none⟩) K (cap - 1))).run Try.prog W = .ok (.string s0) W) := fun W h => by
            rw [hs0]
            refine run_convert_rw (P := Try.prog) W 26 9 5 Try.underlying26 Try.underlying5 Try.underlying9 (some ⟨g, off + 1, none⟩) K (cap - 1) ((ys.drop 1).take K) (by rw [List.length_take, List.length_drop, ← HYL.out]; omega) (fun hp => ⟨g, off + 1, rfl, fun i hi => ?_⟩)
            have := Sl.take (cap := cap) (Sl.drop (HC.out W h) 1) K i (by rw [List.length_take, List.length_drop, ← HYL.out]; omega)
            exact this
          have HL0 : Hid (∀ W, Below w.heap.size w W → W.cell? ⟨g, off + 1 + K, none⟩ = some (.int .u8 ((ys.drop (1 + K)).getD 0 0)) ∧ W.cell? ⟨g, off + 1 + K + 1, none⟩ = some (.int .u8 ((ys.drop (1 + K)).getD 1 0))) := fun W h => by
            have e := Sl.drop (HC.out W h) (1 + K)
            rw [← Nat.add_assoc] at e
            exact ⟨by have := e 0 (by rw [List.length_drop, ← HYL.out]; omega); rwa [Nat.add_zero] at this, e 1 (by rw [List.length_drop, ← HYL.out]; omega)⟩
          have hgb0 := (HB.out.drop (1 + K)).get 0
          have hgb1 := (HB.out.drop (1 + K)).get 1
          obtain ⟨t0, ht0⟩ : ∃ t, t = (ys.drop (1 + K)).getD 0 0 := ⟨_, rfl⟩
          obtain ⟨t1, ht1⟩ : ∃ t, t = (ys.drop (1 + K)).getD 1 0 := ⟨_, rfl⟩
          rw [← ht0] at HL0 hgb0
          rw [← ht1] at HL0 hgb1
          have hw0 : IntKind.i64.wrap t0 = t0 := by rw [IntKind.wrap_i64]; omega
          have hw1 : IntKind.i64.wrap t1 = t1 := by rw [IntKind.wrap_i64]; omega
          obtain ⟨m0, hm_0⟩ : ∃ x, x = nn (((ys.drop (1 + K)).drop 2).take 8) := ⟨_, rfl⟩
          have HM0 : Hid (∀ W, Below w.heap.size w W → Calls Try.prog 32 #[.slice (some ⟨g, off + 1 + K + 2, none⟩) 8 (C - 2)] W fun e w' => e = .returned (.int .i64 m0) ∧ W = w') := fun W h => by
            rw [hm_0]
            refine rnumb g (off + 1 + K + 2) (C - 2) (((ys.drop (1 + K)).drop 2).take 8) 8 W (by simp only [List.length_take, List.length_drop, ← HYL.out]; omega) (by first | exact ((HB.out.drop _).drop _).take _ | exact (HB.out.drop _).take _) (by omega) ?_
            have e := Sl.drop (HC.out W h) (1 + K)
            rw [← Nat.add_assoc] at e
            exact Sl.take (cap := cap) (Sl.drop e 2) 8
          obtain ⟨m1, hm_1⟩ : ∃ x, x = nn (((ys.drop (1 + K)).drop 10).take 4) := ⟨_, rfl⟩
          have HM1 : Hid (∀ W, Below w.heap.size w W → Calls Try.prog 32 #[.slice (some ⟨g, off + 1 + K + 10, none⟩) 4 (C - 10)] W fun e w' => e = .returned (.int .i64 m1) ∧ W = w') := fun W h => by
            rw [hm_1]
            refine rnumb g (off + 1 + K + 10) (C - 10) (((ys.drop (1 + K)).drop 10).take 4) 4 W (by simp only [List.length_take, List.length_drop, ← HYL.out]; omega) (by first | exact ((HB.out.drop _).drop _).take _ | exact (HB.out.drop _).take _) (by omega) ?_
            have e := Sl.drop (HC.out W h) (1 + K)
            rw [← Nat.add_assoc] at e
            exact Sl.take (cap := cap) (Sl.drop e 10) 4
          have HDD : Hid (Rn.dd K ys = ⟨s0, t0, t1, m0, m1⟩) := by
            show _ = _
            unfold Rn.dd
            rw [hs0, ht0, ht1, hm_0, hm_1]
          clear hs0 ht0 ht1 hm_0 hm_1
          change (Code.region 10 o18r10 true).wp _ _ _ _
          refine wp_region_plan (fun W => Below w.heap.size w W) [] c18r10 p18r10_0 hmix b18r10 d18r10 (fun _ _ d _ _ h => by cases d <;> exact h) ?_
          refine plan_take (o := q18r10_0) (r := p18r10_1) ?va0 Z0 (by rfl) ?hya0 ?resta0
          case hya0 => (intro w_ hSw; simp only [q18r10_0]; go_simp; try with_reducible rfl)
          try simp only [q18r10_0, Act.put, List.setIfInBounds_toArray, List.set_cons_zero, List.set_cons_succ]
          refine plan_take (o := q18r10_1) (r := p18r10_2) ?va1 Z0 (by rfl) ?hya1 ?resta1
          case hya1 => (intro w_ hSw; simp only [q18r10_1]; go_simp; try with_reducible rfl)
          try simp only [q18r10_1, Act.put, List.setIfInBounds_toArray, List.set_cons_zero, List.set_cons_succ]
          refine plan_take (o := q18r10_2) (r := p18r10_3) ?va2 Z0 (by rfl) ?hya2 ?resta2
          case hya2 => (intro w_ hSw; have q := HCV.out w_ hSw; simp only [q18r10_2]; go_simp; try with_reducible rfl)
          try simp only [q18r10_2, Act.put, List.setIfInBounds_toArray, List.set_cons_zero, List.set_cons_succ]
          refine plan_take (o := q18r10_3) (r := p18r10_4) ?va3 Z0 (by rfl) ?hya3 ?resta3
          case hya3 => (intro w_ hSw; simp only [q18r10_3]; go_simp; try with_reducible rfl)
          try simp only [q18r10_3, Act.put, List.setIfInBounds_toArray, List.set_cons_zero, List.set_cons_succ]
          refine plan_take (o := q18r10_4) (r := p18r10_5) ?va4 Z0 (by rfl) ?hya4 ?resta4
          case hya4 => (intro w_ hSw; simp only [q18r10_4]; go_simp; try with_reducible rfl)
          try simp only [q18r10_4, Act.put, List.setIfInBounds_toArray, List.set_cons_zero, List.set_cons_succ]
          refine plan_take (o := q18r10_5) (r := p18r10_6) ?va5 Z0 (by rfl) ?hya5 ?resta5
          case hya5 => (intro w_ hSw; have q1 := (HL0.out w_ hSw).1; have q2 := (HL0.out w_ hSw).2; simp only [q18r10_5]; go_simp; try with_reducible rfl)
          try simp only [q18r10_5, Act.put, List.setIfInBounds_toArray, List.set_cons_zero, List.set_cons_succ]
          refine plan_take (o := q18r10_6) (r := p18r10_7) ?va6 Z0 (by rfl) ?hya6 ?resta6
          case hya6 => (intro w_ hSw; simp only [q18r10_6]; go_simp; try with_reducible rfl)
          try simp only [q18r10_6, Act.put, List.setIfInBounds_toArray, List.set_cons_zero, List.set_cons_succ]
          refine plan_take (o := q18r10_7) (r := p18r10_8) ?va7 Z0 (by rfl) ?hya7 ?resta7
          case hya7 => (intro w_ hSw; simp only [q18r10_7]; go_simp; try with_reducible rfl)
          try simp only [q18r10_7, Act.put, List.setIfInBounds_toArray, List.set_cons_zero, List.set_cons_succ]
          refine plan_take (o := q18r10_8) (r := p18r10_9) ?va8 Z0 (by rfl) ?hya8 ?resta8
          case hya8 => (intro w_ hSw; simp only [q18r10_8]; go_simp; try with_reducible rfl)
          try simp only [q18r10_8, Act.put, List.setIfInBounds_toArray, List.set_cons_zero, List.set_cons_succ]
          refine plan_take (o := q18r10_9) (r := p18r10_10) ?va9 Z0 (by rfl) ?hya9 ?resta9
          case hya9 => (intro w_ hSw; have q1 := (HL0.out w_ hSw).1; have q2 := (HL0.out w_ hSw).2; simp only [q18r10_9]; go_simp; try with_reducible rfl)
          try simp only [q18r10_9, Act.put, List.setIfInBounds_toArray, List.set_cons_zero, List.set_cons_succ]
          refine plan_take (o := q18r10_10) (r := p18r10_11) ?va10 Z0 (by rfl) ?hya10 ?resta10
          case hya10 => (intro w_ hSw; simp only [q18r10_10]; go_simp; try with_reducible rfl)
          try simp only [q18r10_10, Act.put, List.setIfInBounds_toArray, List.set_cons_zero, List.set_cons_succ]
          refine plan_take (o := q18r10_11) (r := p18r10_12) ?va11 Z0 (by rfl) ?hya11 ?resta11
          case hya11 => (intro w_ hSw; simp only [q18r10_11]; go_simp; try with_reducible rfl)
          try simp only [q18r10_11, Act.put, List.setIfInBounds_toArray, List.set_cons_zero, List.set_cons_succ]
          refine plan_take (o := q18r10_12) (r := p18r10_13) ?va12 Z0 (by rfl) ?hya12 ?resta12
          case hya12 => (intro w_ hSw; simp only [q18r10_12]; go_simp; try with_reducible rfl)
          try simp only [q18r10_12, Act.put, List.setIfInBounds_toArray, List.set_cons_zero, List.set_cons_succ]
          refine plan_take (o := q18r10_14) (r := p18r10_14) ?va14 Z0 (by rfl) ?hya14 ?resta14
          case hya14 => (intro w_ hSw; simp only [q18r10_14]; go_simp; try with_reducible rfl)
          try simp only [q18r10_14, Act.put, List.setIfInBounds_toArray, List.set_cons_zero, List.set_cons_succ]
          refine plan_take (o := q18r10_15) (r := p18r10_15) ?va15 Z0 (by rfl) ?hya15 ?resta15
          case hya15 => (intro w_ hSw; simp only [q18r10_15]; go_simp; try with_reducible rfl)
          try simp only [q18r10_15, Act.put, List.setIfInBounds_toArray, List.set_cons_zero, List.set_cons_succ]
          refine plan_act (o := q18r10_13) (r := p18r10_16) (fun K hK => ?_)
          simp only [q18r10_13]
          go_simp
          refine (HM0.out _ Z0).mono ?_
          rintro e w9 ⟨rfl, rfl⟩
          go_wp2_with fail
          refine hK.out _ _ (fun h => h) ?_
          clear hK K
          refine plan_act (o := q18r10_16) (r := p18r10_17) (fun K hK => ?_)
          simp only [q18r10_16]
          go_simp
          refine (HM1.out _ Z0).mono ?_
          rintro e w9 ⟨rfl, rfl⟩
          go_wp2_with fail
          refine hK.out _ _ (fun h => h) ?_
          clear hK K
          refine plan_take (o := q18r10_17) (r := p18r10_18) ?va17 Z0 (by rfl) ?hya17 ?resta17
          case hya17 => (intro w_ hSw; simp only [q18r10_17]; go_simp; try with_reducible rfl)
          try simp only [q18r10_17, Act.put, List.setIfInBounds_toArray, List.set_cons_zero, List.set_cons_succ]
          refine plan_act (o := q18r10_18) (r := p18r10_19) (fun K hK => ?_)
          simp only [q18r10_18]
          go_simp
          have Z1 : Below w.heap.size w (w1.drew.alloc (.cells #[.string s0, .int .i64 t0, .int .i64 t1, .int .i64 m0, .int .i64 m1] 38)) := Z0.alloc Z0.size _
          have OX : Ownr (w1.drew.alloc (.cells #[.string s0, .int .i64 t0, .int .i64 t1, .int .i64 m0, .int .i64 m1] 38)) w.heap.size lv ls := ownsRow_kp (F := fun _ => False) OW1.out ((Kp.refl (fun _ => False) w1).drew.alloc _) (fun _ _ x => x)
          have RX := St.new 38 w1.drew #[.string s0, .int .i64 t0, .int .i64 t1, .int .i64 m0, .int .i64 m1]
          refine hK.out _ _ (fun _ => Z1) ?_
          clear hK K
          refine plan_act (o := q18r10_19) (r := p18r10_20) (fun K hK => ?_)
          simp only [q18r10_19]
          refine Eq.mpr (if_pos (by rfl)) ?_
          refine wp_append_at (.tmp 49) (.tmp 67) 36 rfl w.heap.size 38 _ 5 48 Try.underlying36 Try.inf38 rfl (by decide) lv ls.length (flr ls) rfl OX ⟨w1.heap.size, 0, none⟩ 1 1 (Rn.cl (Rn.mk s0 t0 t1 m0 m1)) rfl rfl (fun j u hu => by (rw [add_z]; exact (RX.cell j).trans (by simpa [Rn.cl] using hu))) (fun y hy => flr_one [(Rn.mk s0 t0 t1 m0 m1)] y (by simpa [flr] using hy)) (by have := HLS.out; unfold maxLen; omega) (by have := HLS.out; omega) Z1.size ?_
          intro v3 u3 q3 k3 _
          have Z2 : Below w.heap.size w u3 := Z1.trans (k3.below Z1.size (fun i e => (World.ownsRow.lt OX i e).1))
          have OY : Ownr u3 w.heap.size v3 (ls ++ [(Rn.mk s0 t0 t1 m0 m1)]) := by (show u3.ownsRow w.heap.size 38 5 v3 (ls ++ [(Rn.mk s0 t0 t1 m0 m1)]).length (flr (ls ++ [(Rn.mk s0 t0 t1 m0 m1)])); rw [List.length_append, flr_append, show flr [(Rn.mk s0 t0 t1 m0 m1)] = Rn.cl (Rn.mk s0 t0 t1 m0 m1) by simp [flr]]; exact q3)
          refine hK.out _ _ (fun _ => Z2) ?_
          clear hK K
          try simp only [Act.put, List.setIfInBounds_toArray, List.set_cons_zero, List.set_cons_succ]
          refine plan_take (o := q18r10_20) (r := p18r10_21) ?va20 Z2 (by rfl) ?hya20 ?resta20
          case hya20 => (intro w_ hSw; simp only [q18r10_20]; go_simp; try with_reducible rfl)
          try simp only [q18r10_20, Act.put, List.setIfInBounds_toArray, List.set_cons_zero, List.set_cons_succ]
          refine plan_done ?_
          have OYH := hid OY
          have Z2H := hid Z2
          have HFN : Hid (∀ rv, (∃ ao', rv = .slice ao' (M - 14) (C - 14) ∧ (0 < M - 14 → ao' = some ⟨g, off + 1 + K + 14, none⟩)) → DIr b xs w n (k + 1) v3 rv u3) := by
            rintro rv ⟨ao', rfl, hao⟩
            have hly : (ys.drop (15 + K)).length = M - 14 := by rw [List.length_drop, ← HYL.out]; omega
            refine ⟨hk, Z2H.out, ls ++ [(Rn.mk s0 t0 t1 m0 m1)], ys.drop (15 + K), ao', C - 14, by simp [HLS.out], OYH.out, ?_, by rw [hly], ?_, by rw [hly]; omega, by unfold maxLen; omega, HB.out.drop _, by rw [hly]; omega, by rw [← HDD.out]; exact HNX.out⟩
            · intro e he
              rcases List.mem_append.1 he with he | he
              · exact HI6.out e he
              · rw [List.mem_singleton.1 he, ← HDD.out]; exact HD6.out
            · intro hp
              rw [hly] at hp
              refine ⟨g, off + 1 + K + 14, hao hp, fun i hi => ?_⟩
              have := Sl.drop (HC.out w (Below.refl _ _)) (15 + K) i hi
              rw [← this, show off + (15 + K) + i = off + 1 + K + 14 + i by omega]
          clear OY OX RX Z0 Z1 Z2 q3 k3 OYH HDD HNX HD6 HCV HM0 HM1 HL0 hgb0 hgb1 hw0 hw1 ho0 ho1 hp1 hp0 hi2 hj2 hi10 hj10 hi14 hj14 hn2 hn10
          by_cases hC20 : C = 14
          · have hM20 : M = 14 := by omega
            subst hC20
            subst hM20
            go_wp2_with fail
            go_roundw
            case rel => exact ⟨k + 1, by go_num, HFN.out _ ⟨_, rfl, fun h => by omega⟩⟩
            case measure => simp [intOf]; omega
          · go_wp2_with fail
            go_roundw
            case rel => exact ⟨k + 1, by go_num, HFN.out _ ⟨_, rfl, fun _ => rfl⟩⟩
            case measure => simp [intOf]; omega
    · have hkk : k = n := by omega
      obtain ⟨bo, bcap, rfl, g1, g2, g3, _⟩ := HOW.out.src
      have HQ := hid (rPutz_r b ls bo ls.length bcap wo HBT.out rfl g2 (by have := HLS.out; omega) g1 HI6.out)
      have HFI : Hid (∀ bs er, Out (Rn.May b) Rn.nm Rn.enc b ls bs er → (er = 0 ∧ bs = xs ∧ IsL (Rn.May b) Rn.nm Rn.enc xs n ls) ∨ (¬ (er = 0 ∧ bs = xs) ∧ ∀ m, ¬ IsL (Rn.May b) Rn.nm Rn.enc xs n m)) := fun bs er ho => by
        have h := HIM.out
        rw [hkk] at h
        exact h.fin (by rw [← hkk]; exact HLS.out) HBT.out ho
      clear g1 g2 g3 hkk HIM
      obtain ⟨LN, hLN⟩ : ∃ L, L = ls.length := ⟨_, rfl⟩
      rw [← hLN] at HQ ⊢
      have HLN := hid hLN
      clear hLN
      have HS0 := hid (fun W (h : Below w.heap.size w W) => HS.out.below h)
      go_wp2_with fail
      refine HQ.out.mono ?_
      rintro e w1 ⟨bo1, m1, c1, bs, er, rfl, q1, q2, q3, q4, q5⟩
      have B1 := hid (HBL.out.trans (q5.mono HBL.out.size))
      have S1 := hid q3
      have HM1 := hid q1
      have OW1 : Hid (Ownr w1 w.heap.size (.slice bo LN bcap) ls) := by
        have := ownsRow_kp (F := fun _ => False) HOW.out (Kp.of_below q5) (fun _ _ x => x)
        show Ownr _ _ _ _
        rw [HLN.out]
        exact this
      rcases HFI.out bs er q2 with ⟨rfl, rfl, hI⟩ | ⟨hno, hI⟩
      · have HII := hid hI
        have hst : ((strOfNums bs).toList == (strOfNums bs).toList) = true := by simp
        have hst2 : ((strOfNums bs).toList != (strOfNums bs).toList) = false := by simp
        clear q1 q2 q3 q4 q5 hI HFI HQ
        go_wp2_with (first
          | (refine wpList_convert_rw_gr rfl (.tmp 80) 26 9 5 rfl Try.underlying26 Try.underlying5 Try.underlying9 bo1 m1 c1 rfl bs HM1.out.symm (fun hp => by (rw [HM1.out] at hp ⊢; exact S1.out hp)) ?_)
          | (refine wpList_convert_rw_gr rfl (.tmp 82) 26 9 5 rfl Try.underlying26 Try.underlying5 Try.underlying9 ao0 N0 cap0 rfl bs HN.out.symm (fun hp => by (rw [HN.out] at hp ⊢; exact HS0.out w1 B1.out hp)) ?_))
        go_ret2
        exact ⟨⟨_, _, rfl, Or.inl ⟨rfl, ls, HII.out, OW1.out⟩⟩, B1.out⟩
      · have HII := hid hI
        by_cases her : er = 0
        · subst her
          have hne : bs ≠ xs := fun e => hno ⟨rfl, e⟩
          have hst : ((strOfNums bs).toList == (strOfNums xs).toList) = false := str_ner q4 HBY.out hne
          have hst2 : ((strOfNums bs).toList != (strOfNums xs).toList) = true := by rw [bne, hst]; rfl
          clear q1 q2 q3 q4 q5 hI HFI HQ hno hne
          go_wp2_with (first
            | (refine wpList_convert_rw_gr rfl (.tmp 80) 26 9 5 rfl Try.underlying26 Try.underlying5 Try.underlying9 bo1 m1 c1 rfl bs HM1.out.symm (fun hp => by (rw [HM1.out] at hp ⊢; exact S1.out hp)) ?_)
            | (refine wpList_convert_rw_gr rfl (.tmp 82) 26 9 5 rfl Try.underlying26 Try.underlying5 Try.underlying9 ao0 N0 cap0 rfl xs HN.out.symm (fun hp => by (rw [HN.out] at hp ⊢; exact HS0.out w1 B1.out hp)) ?_))
          go_ret2
          exact ⟨RdPr.no HII.out, B1.out⟩
        · have hex : (er == 0) = false := by simpa using her
          have hex2 : (er != 0) = true := by simpa using her
          clear q1 q2 q3 q4 q5 hI HFI HQ hno
          go_wp2_with fail
          go_ret2
          exact ⟨RdPr.no HII.out, B1.out⟩
end Go.Proofs.Ytjjhkfhppoioiaa
