/- Numbers of mixed widths, one behind the other, as one number (pv, pn); rows of any kind of integers that are appended to; blocks told apart by what they hold. -/
import Derived.Test.YtfeokjbmobmabaaRdH
import Derived.Test.YtfeokjbmobmabaaWrH
import Derived.Test.YtfeokjbmobmabaaWorks
namespace Go.Proofs.Ytfeokjbmobmabaa
open Go.RowKit

/-- How many bits all take. -/
def pn : List (Nat × Nat) → Nat
  | [] => 0
  | (_, n) :: r => n + pn r
/-- The number that they say together. -/
def pv : List (Nat × Nat) → Nat
  | [] => 0
  | (x, n) :: r => x + 2 ^ n * pv r
/-- Each fits its width, which is one that may be. -/
def Its (l : List (Nat × Nat)) : Prop := ∀ p ∈ l, p.2 ≤ 57 ∧ p.1 < 2 ^ p.2
theorem pn_append (a b : List (Nat × Nat)) : pn (a ++ b) = pn a + pn b := by
  induction a with
  | nil => simp [pn]
  | cons p a ih => obtain ⟨x, n⟩ := p; simp only [List.cons_append, pn, ih]; omega
theorem pv_append (a b : List (Nat × Nat)) : pv (a ++ b) = pv a + 2 ^ pn a * pv b := by
  induction a with
  | nil => simp [pv, pn]
  | cons p a ih => obtain ⟨x, n⟩ := p; simp only [List.cons_append, pv, pn, ih, Nat.pow_add, Nat.mul_add, Nat.mul_assoc, Nat.add_assoc]
theorem pv_snoc (l : List (Nat × Nat)) (x n : Nat) : pv (l ++ [(x, n)]) = pv l + x * 2 ^ pn l := by
  rw [pv_append, Nat.mul_comm]; simp [pv]
theorem pn_snoc (l : List (Nat × Nat)) (x n : Nat) : pn (l ++ [(x, n)]) = pn l + n := by
  rw [pn_append]; simp only [pn, Nat.add_zero]
theorem pv_lt (l : List (Nat × Nat)) (h : Its l) : pv l < 2 ^ pn l := by
  induction l with
  | nil => simp [pv, pn]
  | cons p a ih =>
    obtain ⟨x, n⟩ := p
    have h1 := (h (x, n) (by simp)).2
    have h2 := ih (fun q hq => h q (by simp [hq]))
    simp only [pv, pn, Nat.pow_add]
    have h3 : 2 ^ n * pv a + 2 ^ n ≤ 2 ^ n * 2 ^ pn a := by rw [← Nat.mul_succ]; exact Nat.mul_le_mul_left _ h2
    simp only at h1
    omega
theorem pn_le (l : List (Nat × Nat)) (h : Its l) : pn l ≤ 57 * l.length := by
  induction l with
  | nil => simp [pn]
  | cons p a ih =>
    obtain ⟨x, n⟩ := p
    have h1 := (h (x, n) (by simp)).1
    have h2 := ih (fun q hq => h q (by simp [hq]))
    simp only [pn, List.length_cons]
    simp only at h1
    omega
theorem Its.snoc {l : List (Nat × Nat)} (h : Its l) (x n : Nat) (hn : n ≤ 57) (hx : x < 2 ^ n) : Its (l ++ [(x, n)]) := by
  intro p hp
  rcases List.mem_append.1 hp with hp | hp
  · exact h p hp
  · obtain rfl : p = (x, n) := by simpa using hp
    exact ⟨hn, hx⟩
theorem Its.take {l : List (Nat × Nat)} (h : Its l) (j : Nat) : Its (l.take j) := fun p hp => h p (List.mem_of_mem_take hp)
theorem pn_take_succ (l : List (Nat × Nat)) (j : Nat) (hj : j < l.length) : pn (l.take (j + 1)) = pn (l.take j) + (l[j]).2 := by
  rw [List.take_succ_eq_append_getElem hj, pn_append]
  obtain ⟨x, n⟩ := l[j]
  simp [pn]
/-- The j-th of them, read out of the whole, whatever stands behind. -/
theorem pv_read (l : List (Nat × Nat)) (h : Its l) (j : Nat) (hj : j < l.length) (M R : Nat) (hM : pn l ≤ M) : (pv l + R * 2 ^ M) / 2 ^ pn (l.take j) % 2 ^ (l[j]).2 = (l[j]).1 := by
  have hs : l = l.take j ++ l[j] :: l.drop (j + 1) := by rw [← List.drop_eq_getElem_cons hj, List.take_append_drop]
  have hlt := pv_lt _ (h.take j)
  have hx := (h l[j] (List.getElem_mem hj)).2
  have hpn : pn l = pn (l.take j) + pn (l[j] :: l.drop (j + 1)) := by rw [← pn_append, ← hs]
  have hpv : pv l = pv (l.take j) + 2 ^ pn (l.take j) * pv (l[j] :: l.drop (j + 1)) := by rw [← pv_append, ← hs]
  simp only [pn] at hpn
  simp only [pv] at hpv
  generalize (l[j]).1 = x at *
  generalize (l[j]).2 = n at *
  generalize pn (l.take j) = A at *
  generalize pv (l.take j) = a at *
  obtain ⟨k, hk⟩ : ∃ k, M = A + (n + k) := ⟨M - A - n, by omega⟩
  have e : pv l + R * 2 ^ M = a + 2 ^ A * (x + 2 ^ n * (pv (l.drop (j + 1)) + 2 ^ k * R)) := by
    rw [hpv, hk, Nat.pow_add, Nat.pow_add]
    simp only [Nat.mul_add, Nat.mul_assoc, Nat.add_assoc, Nat.mul_comm R, Nat.mul_left_comm]
  rw [e, Nat.add_mul_div_left _ _ (Nat.pow_pos (by omega)), Nat.div_eq_of_lt hlt, Nat.zero_add, Nat.add_mul_mod_self_left, Nat.mod_eq_of_lt hx]

/-- What a block's cells are. -/
def Ty (w : World) (b : Nat) (t : TypeId) : Prop := ∃ cs fr, w.heap[b]? = some (.cells cs t fr)
theorem Ty.ne {w : World} {b : Nat} {t u : TypeId} (h : Ty w b t) (h2 : Ty w b u) : t = u := by
  obtain ⟨cs, fr, e⟩ := h
  obtain ⟨cs2, fr2, e2⟩ := h2
  rw [e] at e2
  injection e2 with e2
  injection e2
theorem ownsRow_kp {F : Nat → Prop} {w w' : World} {base : Nat} {e : TypeId} {size : Nat} {v : Value} {n : Nat} {xs : List Value} (h : w.ownsRow base e size v n xs) (k : Kp F w w') (hF : ∀ b, F b → ¬ Ty w b e) : w'.ownsRow base e size v n xs := by
  refine ⟨h.1, ?_⟩
  rcases h.2 with hn | ⟨g, cap, cur, rfl, hb, hgg, rest⟩
  · exact .inl hn
  · refine .inr ⟨g, cap, cur, rfl, hb, ?_, rest⟩
    rw [k.block g (Array.getElem?_eq_some_iff.1 hgg).1 (fun x => hF g x ⟨_, _, hgg⟩)]
    exact hgg
theorem ownI_ty {w : World} {base : Nat} {v : Value} {xs : List Int} (h : OwnI w base v xs) {b : Nat} (hb : v.ownBlock = some b) : Ty w b 5 := by
  rcases h with ⟨rfl, _⟩ | ⟨g, cap, tl, rfl, _, hr, _⟩
  · simp [Value.ownBlock] at hb
  · simp [Value.ownBlock] at hb
    subst hb
    exact ⟨_, _, hr⟩
theorem Wr.ty {w : World} {g : Nat} {sl : Value} {N v : Nat} (h : Wr w g sl N v) : Ty w g 29 := ⟨_, _, h.2.1⟩
theorem Wr.tyb {w : World} {g : Nat} {sl : Value} {N v : Nat} (h : Wr w g sl N v) {b : Nat} (hb : sl.ownBlock = some b) : Ty w b 5 := ownI_ty h.2.2.1 hb
theorem Rd.ty {w : World} {g : Nat} {ao : Option Addr} {cap : Nat} {B : List Int} {p : Nat} (h : Rd w g ao cap B p) : Ty w g 80 := by
  obtain ⟨n, q, h⟩ := h
  exact ⟨_, _, h.st⟩
/-- What is no writer's is kept. -/
abbrev Wk (w w' : World) : Prop := Kp (fun i => Ty w i 29 ∨ Ty w i 5) w w'
/-- What is no reader is kept. -/
abbrev Rk (w w' : World) : Prop := Kp (fun i => Ty w i 80) w w'
theorem Put'.wk {w w' : World} {g : Nat} {sl : Value} {N v N' v' : Nat} (h : Wr w g sl N v) (p : Put' w w' g sl N' v') : Wk w w' := by
  obtain ⟨_, _, k, _⟩ := p
  refine k.mono (fun i _ e => ?_)
  rcases e with rfl | e
  · exact .inl h.ty
  · exact .inr (h.tyb e)
theorem Put'.wrO {w0 w w' : World} {g : Nat} {sl : Value} {N' v' : Nat} (p : Put' w w' g sl N' v') (k : Ok' w0 w) (hg : w0.heap.size ≤ g) (hb : ∀ b, sl.ownBlock = some b → w0.heap.size ≤ b) : WrO w0 w' g N' v' := by
  obtain ⟨sl', hw', k', hb'⟩ := p
  refine ⟨sl', hw', k.trans k' ?_, hg, fun b e => ?_⟩
  · intro i hi e
    rcases e with e | e
    · omega
    · have := hb i e; omega
  · rcases hb' b e with h | h
    · exact hb b h
    · have := k.size; omega
theorem putT (w0 w : World) (g x n N v : Nat) (hN : N ≤ 1000000000) (hn : n ≤ 57) (hx : x < 2 ^ n) (h : WrO w0 w g N v) :
    Calls Try.prog 17 #[.pointer (some ⟨g, 0, none⟩), .int .u64 x, .int .i64 n] w fun e w' => e = .returned (.int .i64 0) ∧ WrO w0 w' g (N + n) (v + x * 2 ^ N) ∧ Wk w w' := by
  obtain ⟨sl, hw, k, hg, hb⟩ := h
  refine (put_ok g sl x n N v w hN hn hx hw).mono ?_
  rintro e w' ⟨rfl, p⟩
  exact ⟨rfl, p.wrO k hg hb, p.wk hw⟩
theorem codeT (w0 w : World) (g x n N v : Nat) (hN : N ≤ 1000000000) (hn : n ≤ 57) (hx : x < 2 ^ n) (h : WrO w0 w g N v) :
    Calls Try.prog 18 #[.pointer (some ⟨g, 0, none⟩), .int .u64 x, .int .i64 n] w fun e w' => e = .returned (.int .i64 0) ∧ WrO w0 w' g (N + n) (v + turn x n * 2 ^ N) ∧ Wk w w' := by
  obtain ⟨sl, hw, k, hg, hb⟩ := h
  refine (code_ok g sl x n N v w hN hn hx hw).mono ?_
  rintro e w' ⟨rfl, p⟩
  exact ⟨rfl, p.wrO k hg hb, p.wk hw⟩
theorem alignT (w0 w : World) (g N v : Nat) (hN : N ≤ 1000000000) (h : WrO w0 w g N v) :
    Calls Try.prog 19 #[.pointer (some ⟨g, 0, none⟩)] w fun e w' => e = .returned (.int .i64 0) ∧ WrO w0 w' g (8 * ((N + 7) / 8)) v ∧ Wk w w' := by
  obtain ⟨sl, hw, k, hg, hb⟩ := h
  refine (align_any g sl N v w hN hw).mono ?_
  rintro e w' ⟨rfl, p⟩
  exact ⟨rfl, p.wrO k hg hb, p.wk hw⟩
theorem rawT (w0 w : World) (g N v : Nat) (ao : Option Addr) (c : Nat) (B : List Int) (hN : N ≤ 1000000000) (h8 : N % 8 = 0) (hB : B.length ≤ 1000000000) (hb : Byt B) (hsrc : Src w ao B) (hnil : ao = none → c = 0) (h : WrO w0 w g N v) :
    Calls Try.prog 20 #[.pointer (some ⟨g, 0, none⟩), .slice ao B.length c] w fun e w' => e = .returned (.int .i64 0) ∧ WrO w0 w' g (N + 8 * B.length) (v + und 256 B * 2 ^ N) ∧ Wk w w' := by
  obtain ⟨sl, hw, k, hg, hb2⟩ := h
  refine (rawW_ok g sl N v ao c B w hN h8 hB hb hsrc hnil hw).mono ?_
  rintro e w' ⟨rfl, p⟩
  exact ⟨rfl, p.wrO k hg hb2, p.wk hw⟩
theorem lenT (w0 w : World) (g N v : Nat) (hN : N ≤ 1000000000) (h : WrO w0 w g N v) :
    Calls Try.prog 12 #[.pointer (some ⟨g, 0, none⟩)] w fun e w' => e = .returned (.int .i64 N) ∧ WrO w0 w' g N v ∧ Ok' w w' := by
  obtain ⟨sl, hw, k, hg, hb⟩ := h
  refine (len_any g sl N v w hN hw).mono ?_
  rintro e w' ⟨rfl, k2⟩
  exact ⟨rfl, WrO.ok ⟨sl, hw, k, hg, hb⟩ k2, k2⟩
theorem bytesT (w0 w : World) (g N v : Nat) (hN : N ≤ 1000000000) (h : WrO w0 w g N v) :
    Calls Try.prog 14 #[.pointer (some ⟨g, 0, none⟩)] w fun e w' => ∃ G, e = .returned (.slice (some ⟨G, 0, none⟩) ((N + 7) / 8) ((N + 7) / 8)) ∧ w0.heap.size ≤ G ∧ Rw 5 w' G (dig 256 v ((N + 7) / 8)) ∧ WrO w0 w' g N v ∧ Ok' w w' := by
  obtain ⟨sl, hw, k, hg, hb⟩ := h
  refine (bytes_any g sl N v w hN hw).mono ?_
  rintro e w' ⟨G, rfl, hG, r, k'⟩
  exact ⟨G, rfl, Nat.le_trans k.size hG, r, WrO.ok ⟨sl, hw, k, hg, hb⟩ k', k'⟩
theorem RdO.of {w0 w w' : World} {g G cap : Nat} {B : List Int} {p q : Nat} (k : Ok' w0 w) (hg : w0.heap.size ≤ g) (hG : w0.heap.size ≤ G) (h : Rd w g (some ⟨G, 0, none⟩) cap B p) (h2 : Rd w' g (some ⟨G, 0, none⟩) cap B q) (k2 : Kp (fun i => i = g) w w') : RdO w0 w' g B q ∧ Rk w w' :=
  ⟨⟨G, cap, h2, k.trans k2 (fun i hi e => by omega), hg, hG⟩, k2.mono (fun i _ e => by subst e; exact h.ty)⟩
theorem peekT (w0 w : World) (g : Nat) (B : List Int) (p n : Nat) (hn : n ≤ 57) (h : RdO w0 w g B p) :
    Calls Try.prog 27 #[.pointer (some ⟨g, 0, none⟩), .int .i64 n] w fun e w' => e = .returned (.tuple #[.int .u64 ((und 256 B / 2 ^ p % 2 ^ n : Nat) : Int), .int .i64 ((min n (8 * B.length - p) : Nat) : Int), .int .i64 0]) ∧ RdO w0 w' g B p ∧ Rk w w' := by
  obtain ⟨G, cap, hr, k, hg, hG⟩ := h
  refine (peek_ok g _ cap B p n w hn hr).mono ?_
  rintro e w' ⟨rfl, h2, k2⟩
  exact ⟨rfl, RdO.of k hg hG hr h2 k2⟩
theorem takeT (w0 w : World) (g : Nat) (B : List Int) (p n : Nat) (hn : n ≤ 57) (h : RdO w0 w g B p) (hl : p + n ≤ 8 * B.length) :
    Calls Try.prog 32 #[.pointer (some ⟨g, 0, none⟩), .int .i64 n] w fun e w' => e = .returned (.tuple #[.int .u64 ((und 256 B / 2 ^ p % 2 ^ n : Nat) : Int), .int .i64 0]) ∧ RdO w0 w' g B (p + n) ∧ Rk w w' := by
  obtain ⟨G, cap, hr, k, hg, hG⟩ := h
  refine (take_ok g _ cap B p n w hn hr hl).mono ?_
  rintro e w' ⟨rfl, h2, k2⟩
  exact ⟨rfl, RdO.of k hg hG hr h2 k2⟩
theorem shortT (w0 w : World) (g : Nat) (B : List Int) (p n : Nat) (hn : n ≤ 57) (h : RdO w0 w g B p) (hl : 8 * B.length < p + n) :
    Calls Try.prog 32 #[.pointer (some ⟨g, 0, none⟩), .int .i64 n] w fun e w' => e = .returned (.tuple #[.int .u64 0, .int .i64 120]) ∧ RdO w0 w' g B p ∧ Rk w w' := by
  obtain ⟨G, cap, hr, k, hg, hG⟩ := h
  refine (take_short g _ cap B p n w hn hr hl).mono ?_
  rintro e w' ⟨rfl, h2, k2⟩
  exact ⟨rfl, RdO.of k hg hG hr h2 k2⟩
theorem alignRT (w0 w : World) (g : Nat) (B : List Int) (p : Nat) (h : RdO w0 w g B p) :
    Calls Try.prog 33 #[.pointer (some ⟨g, 0, none⟩)] w fun e w' => e = .returned (.int .i64 0) ∧ RdO w0 w' g B (8 * ((p + 7) / 8)) ∧ Rk w w' := by
  obtain ⟨G, cap, hr, k, hg, hG⟩ := h
  refine (alignR_any g _ cap B p w hr).mono ?_
  rintro e w' ⟨rfl, h2, k2⟩
  exact ⟨rfl, RdO.of k hg hG hr h2 k2⟩
theorem rawRT (w0 w : World) (g : Nat) (B : List Int) (p n : Nat) (h8 : p % 8 = 0) (hl : n ≤ (8 * B.length - p) / 8) (h : RdO w0 w g B p) :
    Calls Try.prog 34 #[.pointer (some ⟨g, 0, none⟩), .int .i64 n] w fun e w' => ∃ G, e = .returned (.tuple #[.slice (some ⟨G, 0, none⟩) n n, .int .i64 0]) ∧ w0.heap.size ≤ G ∧ Rw 5 w' G ((B.drop (p / 8)).take n) ∧ RdO w0 w' g B (p + 8 * n) ∧ Rk w w' := by
  obtain ⟨G, cap, hr, k, hg, hG⟩ := h
  refine (rawR_walk g G 0 cap B p n w h8 hl hr).mono ?_
  rintro e w' ⟨G2, rfl, hG2, r, h2, k2⟩
  exact ⟨G2, rfl, Nat.le_trans k.size hG2, r, RdO.of k hg hG hr h2 k2⟩

/-- What lies at an address, of any kind of integers (asked only where there are any). -/
def SrcK (k : IntKind) (w : World) (ao : Option Addr) (zs : List Int) : Prop := 0 < zs.length → ∃ b off, ao = some ⟨b, off, none⟩ ∧ ∀ i, i < zs.length → w.cell? ⟨b, off + i, none⟩ = some (.int k (zs.getD i 0))
theorem SrcK.ok {k : IntKind} {w w' : World} {ao : Option Addr} {zs : List Int} (h : SrcK k w ao zs) (kk : Ok' w w') : SrcK k w' ao zs := by
  intro hp
  obtain ⟨b, off, e, hc⟩ := h hp
  refine ⟨b, off, e, fun i hi => ?_⟩
  have hci := hc i hi
  rw [← hci]
  unfold World.cell?
  simp only [kk.block b (block_lt_of_cell hci) (fun x => x)]
theorem Try.info27 : (Try.prog.info? 27).map (fun i => (i.zero, i.size, i.bytes)) = some (some (.int .u64 0), 1, 8) := by kernel_rfl
theorem Try.info3 : (Try.prog.info? 3).map (fun i => (i.zero, i.size, i.bytes)) = some (some (.int .i64 0), 1, 8) := by kernel_rfl
/-- append of one that was just made, as one step. -/
theorem wpList_append_1 {w : World} {ops : Array Oper} {rest : List Oper} {o : Oper} {a : Act} {Q : Exit → Act → World → Prop} (hgd : o.guard = none) (s x : Operand) (T e : TypeId) (z0 u : Value) (bytes : Nat)
    (ho : o.op = .call { callee := .builtin .append, args := #[s, x], argTypes := #[T, T] }) (hT : Try.prog.underlying T = some (.slice e)) (hinfo : (Try.prog.info? e).map (fun i => (i.zero, i.size, i.bytes)) = some (some z0, 1, bytes))
    (hz0 : z0.cells.size = 1) (hb8 : bytes ≤ 24) (hu : u.oneCell' = true)
    (base : Nat) (v : Value) (n : Nat) (xs : List Value) (hs : a.eval s = v) (hown : w.ownsRow base e 1 v n xs) (hx : a.eval x = .slice (some ⟨w.heap.size, 0, none⟩) 1 1)
    (hn : n ≤ 1000000) (hbase : base ≤ w.heap.size)
    (h : ∀ v' w', w'.ownsRow base e 1 v' (n + 1) (xs ++ [u]) → (w.alloc (.cells #[u] e)).grownBy w' v.ownBlock → wpList Try.prog ops Q rest (a.put o.dst v') w') : wpList Try.prog ops Q (o :: rest) a (w.alloc (.cells #[u] e)) := by
  obtain ⟨i0, hi, hz1, hz2, hz3⟩ := info_parts hinfo
  refine wpList_append_own _ hgd s x T ho base e i0 z0 1 bytes hT hi hz1 hz2 hz3 hz0 (by decide) v n xs hs (hown.kept (World.grownBy_alloc w _ none) (by cases hv : v.ownBlock <;> simp)) ⟨w.heap.size, 0, none⟩ 1 1 [u] hx rfl ?_ ?_ (by unfold maxLen; omega) ?_ (Nat.le_trans hbase (by simp)) (fun v' w' h1 h2 _ => h v' w' h1 h2)
  · intro j y hj
    match j, hj with
    | 0, hj =>
      simp at hj
      subst hj
      rw [add_z]
      rw [cell_of_row _ w.heap.size 0 _ _ _ (heap_alloc_new w _)]
      rfl
  · intro y hy
    simp at hy
    subst hy
    exact hu
  · have : (n + 1) * bytes ≤ (n + 1) * 24 := Nat.mul_le_mul_left _ hb8
    omega

end Go.Proofs.Ytfeokjbmobmabaa
