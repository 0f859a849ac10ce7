/- A step put behind others; Crash refuses a pick below 0; what StoreFlushed's second loop keeps. -/
import Derived.Test.YtalicohflfildaaPy
import Derived.Test.YtalicohflfildaaSt2
import Derived.Test.YtalicohflfildaaKn
namespace Go.Proofs.Ytalicohflfildaa
open Go.RowKit

theorem info47 : (Try.prog.info? 47).map (fun i => (i.zero, i.size, i.bytes)) = some (some (.agg #[.int .i64 0, .int .i64 0, .int .i64 0, .string ⟨#[]⟩, .slice none 0 0, .slice none 0 0, .slice none 0 0]), 7, 112) := by kernel_rfl
theorem wpList_append_step {w : World} {ops : Array Oper} {rest : List Oper} {o : Oper} {a : Act} {Q : Exit → Act → World → Prop} (hgd : o.guard = none) (s x : Operand)
    (ho : o.op = .call { callee := .builtin .append, args := #[s, x], argTypes := #[23, 23] }) (base : Nat)
    (v : Value) (n : Nat) (xs : List Value) (hs : a.eval s = v) (hown : w.ownsRow base 47 7 v n xs)
    (b : Nat) (t : Stp) (hx : a.eval x = .slice (some ⟨b, 0, none⟩) 1 1) (hst : St 47 w b t.cells.toArray) (h1 : t.bv.oneCell' = true ∧ t.fv.oneCell' = true ∧ t.pv.oneCell' = true)
    (h63 : n + 1 ≤ 1000000) (hbase : base ≤ w.heap.size)
    (h : ∀ v' w', w'.ownsRow base 47 7 v' (n + 1) (xs ++ t.cells) → Kp (fun i => v.ownBlock = some i) w w' → wpList Try.prog ops Q rest (a.put o.dst v') w') : wpList Try.prog ops Q (o :: rest) a w := by
  obtain ⟨i0, hi, hz0, hz1, hz2⟩ := info_parts info47
  refine wpList_append_own w hgd s x 23 ho base 47 i0 _ 7 _ Try.underlying23 hi hz0 hz1 hz2 rfl (by decide) v n xs hs hown ⟨b, 0, none⟩ 1 1 t.cells hx rfl ?_ ?_ (by unfold maxLen; omega) (by omega) hbase ?_
  · intro j u hu
    rw [add_o, Nat.zero_add, hst.cell]
    simpa using hu
  · intro u hu
    simp only [Stp.cells, List.mem_cons, List.not_mem_nil, or_false] at hu
    rcases hu with rfl | rfl | rfl | rfl | rfl | rfl | rfl
    · rfl
    · rfl
    · rfl
    · rfl
    · exact h1.1
    · exact h1.2.1
    · exact h1.2.2
  · intro v' w' h2 h3 h4
    exact h v' w' h2 (Kp.of_grown h3 (fun i e => e))
/-- A row of our own reads as steps. -/
theorem own_ssrc {w : World} {base n : Nat} {v : Value} {ts : List Stp} (h : w.ownsRow base 47 7 v n (scs ts)) (hn : n = ts.length) : ∃ ao cap, v = .slice ao n cap ∧ SSrc w ao ts ∧ ∀ b off, ao = some ⟨b, off, none⟩ → base ≤ b := by
  rcases h.2 with ⟨rfl, h1⟩ | ⟨g, cap, cur, rfl, h1, h2, h3, h4, h5, h6⟩
  · refine ⟨none, 0, by rw [h1], ?_, fun b off e => by cases e⟩
    intro hp
    omega
  · refine ⟨_, _, rfl, ?_, fun b off e => by cases e; exact h1⟩
    intro hp
    refine ⟨g, 0, rfl, (Array.getElem?_eq_some_iff.1 h2).1, fun i hi j hj => ?_⟩
    have e1 := scs_get ts i j hi hj
    rw [← h6, List.getElem?_take, if_pos (by omega)] at e1
    refine (cell_of_row w g _ _ 47 _ h2).trans ?_
    rw [Nat.zero_add]
    simpa using e1
set_option maxRecDepth 100000 in
set_option maxHeartbeats 1000000 in
theorem crash_bad (D : Nat → Prop) (w : World) (g fm : Nat) (fv : Value) (steps : Nat) (fs : List Fe) (ft : List (Int × Int)) (es : List (ByteArray × Value × Nat)) (c : Nat) (hs : Sr D w g fm fv steps fs ft es c) (ao : Option Addr) (zs : List Int) (n cap : Nat) (hn : n = zs.length) (hb : n ≤ 1000000000000) (hz : ¬ ∀ z ∈ zs, 0 ≤ z) (hS : Src .i64 w ao zs) :
    Calls Try.prog 11 #[.pointer (some ⟨g, 0, none⟩), .slice ao n cap] w fun e w' => e = .returned (.tuple #[.pointer none, .int .i64 2]) ∧ w' = w := by
  have c0 : w.cell? ⟨g, 0, none⟩ = some (.map (some fm)) := hs.st.cell 0
  have hany : zs.any (fun z => decide (z < 0)) = true := by
    cases hq : zs.any (fun z => decide (z < 0)) with
    | true => rfl
    | false =>
      rw [List.any_eq_false] at hq
      exact absurd (fun z hz' => by have := hq z hz'; simp at this; omega) hz
  have HN : Hid (n = zs.length) := hn
  have HSR : Hid (Src .i64 w ao zs) := hS
  clear hs hn hz hS
  go_enter Try.func11, Try.ntmps11
  go_wp2_with (first | (go_at_call 25; refine (none_live _ _ _ c0).mono ?_; rintro e w' ⟨rfl, h⟩; replace h := h.symm; subst h) | (go_at_call 26; refine (containsf_any ao zs n cap w HN.out hb HSR.out).mono ?_; rintro e w' ⟨rfl, h⟩; replace h := h.symm; subst h; rw [hany]))
  go_ret2
  exact ⟨rfl, rfl⟩
theorem Swf.kp {B B' : Nat} {w w' : World} {t : Stp} (h : Swf B w t) (k : Kp (fun _ => False) w w') (hb : B ≤ B') : Swf B' w' t := by
  obtain ⟨⟨ao, cap, xs, e, h1, h2, h3, h4⟩, h5, h6, h7, h8, h9⟩ := h
  exact ⟨⟨ao, cap, xs, e, h1, h2.kp k (fun _ _ _ h => h), h3, fun b off e h0 => Nat.lt_of_lt_of_le (h4 b off e h0) hb⟩, h5, h6, h7, h8, h9⟩
structure FwB (D : Nat → Prop) (w : World) (g fm : Nat) (fv : Value) (fs : List Fe) (k : Nat) (W : World) (D' : Nat → Prop) (fv' : Value) (st' : Nat) (fs' : List Fe) (es' : List (ByteArray × Value × Nat)) (c' : Nat) : Prop where
  sr : Sr D' W g fm fv' st' fs' [] es' c'
  st : st' ≤ 120 + k
  nm : fs'.map (·.1) = fs.map (·.1)
  fl : ∀ f ∈ fs', f.1 ∈ (nms fs).take k → f.2.2.ps = []
  wk : Wk D w (ownS g fm fv fs) W D' (ownS g fm fv' fs')
theorem FwB.step {D : Nat → Prop} {w : World} {g fm : Nat} {fv : Value} {fs : List Fe} {k : Nat} {W : World} {D' : Nat → Prop} {fv' : Value} {st' : Nat} {l r : List Fe} {s : ByteArray} {a : Fa} {q : Gf} {es' : List (ByteArray × Value × Nat)} {c' : Nat} (h : FwB D w g fm fv fs k W D' fv' st' (l ++ (s, a, q) :: r) es' c') (hs : (nms fs)[k]? = some s)
    {W2 : World} {D2 : Nat → Prop} {fv2 : Value} {a2 : Fa} (h2 : Sr D2 W2 g fm fv2 (st' + 1) (l ++ (s, a2, gfl q (lft 0 0 q.ps.length)) :: r) [] es' c') (ho : fv2.ownBlock = fv'.ownBlock) (hk : Wk D' W (g :: a.own) W2 D2 (g :: a2.own)) : FwB D w g fm fv fs (k + 1) W2 D2 fv2 (st' + 1) (l ++ (s, a2, gfl q (lft 0 0 q.ps.length)) :: r) es' c' := by
  have hst := h.st
  have hnd := h2.keys.2
  refine ⟨h2, by omega, ?_, fun f hf hm => ?_, h.wk.trans (Wk.upd ho hk)⟩
  · rw [← h.nm]; simp
  · rw [take_snoc _ _ _ hs] at hm
    rcases List.mem_append.1 hf with h1 | h1
    · rcases List.mem_append.1 hm with h3 | h3
      · exact h.fl f (by simp [h1]) h3
      · exfalso
        rw [List.mem_singleton.1 h3 |>.symm] at hnd
        rw [List.map_append, List.nodup_append] at hnd
        exact hnd.2.2 f.1 (List.mem_map.2 ⟨f, h1, rfl⟩) f.1 (by simp) rfl
    · rcases List.mem_cons.1 h1 with h1 | h1
      · rw [h1, gfl_all]
      · rcases List.mem_append.1 hm with h3 | h3
        · exact h.fl f (by simp [h1]) h3
        · exfalso
          rw [List.map_append, List.nodup_append, List.map_cons, List.nodup_cons] at hnd
          exact hnd.2.1.1 (List.mem_map.2 ⟨f, h1, (List.mem_singleton.1 h3)⟩)
theorem FwB.all {D : Nat → Prop} {w : World} {g fm : Nat} {fv : Value} {fs : List Fe} {k : Nat} {W : World} {D' : Nat → Prop} {fv' : Value} {st' : Nat} {fs' : List Fe} {es' : List (ByteArray × Value × Nat)} {c' : Nat} (h : FwB D w g fm fv fs k W D' fv' st' fs' es' c') (hk : fs.length ≤ k) : ∀ f ∈ fs', f.2.2.ps = [] := by
  intro f hf
  refine h.fl f hf ?_
  rw [List.take_of_length_le (by rw [nms_len]; exact hk)]
  refine (nms_perm fs).mem_iff.2 ?_
  rw [← h.nm]
  exact List.mem_map.2 ⟨f, hf, rfl⟩
theorem pnd_flat {fs : List Fe} (h : ∀ f ∈ fs, f.2.2.ps = []) : pnd fs = 0 := by
  unfold pnd
  induction fs with
  | nil => rfl
  | cons f fs ih =>
    rw [List.map_cons, List.sum_cons, h f (by simp), ih (fun x hx => h x (by simp [hx]))]
    rfl
/-- Another store lies beside what was made behind it. -/
theorem Sr.beside {D D' : Nat → Prop} {w W : World} {g fm : Nat} {fv : Value} {steps : Nat} {fs : List Fe} {ft : List (Int × Int)} {es : List (ByteArray × Value × Nat)} {c : Nat} (h : Sr D w g fm fv steps fs ft es c) (k : Kp (fun _ => False) w W) (hd : ∀ i, D i → D' i) (he : ∀ i, D' i → D i ∨ w.heap.size ≤ i) (hb : ∀ i, D' i → i < W.heap.size) : Sr D' W g fm fv steps fs ft es c := by
  refine (h.kp k (fun _ _ h => h) (fun _ _ h => h)).mono hd (fun i hi hm => ?_) hb
  rcases he i hi with h1 | h1
  · exact h.dn i h1 hm
  · have := h.lt i hm; omega
end Go.Proofs.Ytalicohflfildaa
