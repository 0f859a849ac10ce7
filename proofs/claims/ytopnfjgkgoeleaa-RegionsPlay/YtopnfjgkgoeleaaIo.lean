/- regions: append onto lists; slices.Insert of one, its three roads. -/
import Derived.Test.YtopnfjgkgoeleaaIn
namespace Go.Proofs.Ytopnfjgkgoeleaa
open Go.RowKit
set_option linter.unusedVariables false
set_option linter.unusedSimpArgs false
theorem append_types {P : Program} {t t2 ty e e2 : TypeId} {i : TypeInfo} (ht : P.underlying t = some (.slice e)) (h2 : P.underlying t2 = some (.slice e2)) (hi : P.info? e = some i) (base : Option Addr) (n c : Nat) (x : Value) (w : World) :
    (Builtin.append_ #[t, t2] ty #[.slice base n c, x]).run P w = (Builtin.append_ #[t, t] ty #[.slice base n c, x]).run P w := by
  simp [Builtin.append_, run_underlying ht, run_underlying h2, sizeOf, typeInfo, hi]
theorem app_run {t2 ty e2 : TypeId} (h2 : Try.prog.underlying t2 = some (.slice e2)) (L M : List Rn) (ao bo : Option Addr) (c cb : Nat) (w : World) (hL : Lst w ao c L) (hM : Srcr w bo M) (hlen : L.length + M.length ≤ 200000) (h0 : 0 < M.length) :
    ∃ g c' w', (Builtin.append_ #[73, t2] ty #[.slice ao L.length c, .slice bo M.length cb]).run Try.prog w = .ok (.slice (some ⟨g, 0, none⟩) (L.length + M.length) c') w' ∧ Lst w' (some ⟨g, 0, none⟩) c' (L ++ M) ∧ Kp (Rmb ao L.length c) w w' ∧ (Rmb ao L.length c g ∨ w.heap.size ≤ g) := by
  obtain ⟨i0, hi0, hz0, hz1, hz2⟩ := info_parts Try.inf46
  rw [append_types Try.underlying73 h2 hi0]
  obtain ⟨b, off, rfl, hb, hc⟩ := hM h0
  have hnews : ∀ j u, (flr M)[j]? = some u → w.cell? ((⟨b, off, none⟩ : Addr).add j) = some u := fun j u hu => by rw [add_o]; exact hc j u hu
  have fin : ∀ {base : Nat} {v' : Value} {w' : World}, w'.ownsRow base 46 3 v' (L.length + M.length) (flr L ++ flr M) → ∃ g c', v' = .slice (some ⟨g, 0, none⟩) (L.length + M.length) c' ∧ base ≤ g ∧ Lst w' (some ⟨g, 0, none⟩) c' (L ++ M) := fun {base v' w'} h => by
    have h' : w'.ownsRow base 46 3 v' (L ++ M).length (flr (L ++ M)) := by rw [flr_append, List.length_append]; exact h
    obtain ⟨g, c', e, h3, h4⟩ := Lst.of_own h' (by simp; omega)
    exact ⟨g, c', by rw [e, List.length_append], h3, h4⟩
  by_cases hroom : L.length < c
  · obtain ⟨g0, cur, rfl, _, _, _, hg0⟩ := hL.own hroom
    obtain ⟨v', w', hr, h3, h4, _, h5⟩ := run_append_own_at (P := Try.prog) w 0 73 ty 46 i0 _ 3 24 Try.underlying73 hi0 hz0 hz1 hz2 rfl (by decide) _ L.length (flr L) (hL.to_own hroom) ⟨b, off, none⟩ M.length cb (flr M) (flr_len M) hnews (flr_one M) (by unfold maxLen; omega) (by omega) (Nat.zero_le _)
    obtain ⟨g, c', rfl, _, h6⟩ := fin h3
    refine ⟨g, c', w', hr, h6, Kp.of_grown h4 (fun i e => ?_), ?_⟩
    · simp only [Value.ownBlock, Option.some.injEq] at e
      subst e
      exact ⟨hroom, 0, rfl⟩
    · simp only [Value.ownBlock, Option.some.injEq] at h5
      rcases h5 with rfl | rfl
      · exact Or.inl ⟨hroom, 0, rfl⟩
      · exact Or.inr (Nat.le_refl _)
  · have hlc := hL.2.1
    cases ao with
    | none =>
      have hc0 := hL.2.2.2.1 rfl
      subst hc0
      obtain rfl : L = [] := List.eq_nil_of_length_eq_zero (by omega)
      obtain ⟨v', w', hr, h3, h4, _⟩ := run_append_own (P := Try.prog) w w.heap.size 73 ty 46 i0 _ 3 24 Try.underlying73 hi0 hz0 hz1 hz2 rfl (by decide) (.slice none 0 0) 0 [] (World.ownsRow_nil w _ 46 3) ⟨b, off, none⟩ M.length cb (flr M) (flr_len M) hnews (flr_one M) (by unfold maxLen; omega) (by omega) (Nat.le_refl _)
      obtain ⟨g, c', rfl, h5, h6⟩ := fin h3
      exact ⟨g, c', w', hr, h6, Kp.of_grown h4 (fun i e => by simp [Value.ownBlock] at e), Or.inr h5⟩
    | some ad =>
      obtain ⟨v', w', hr, h3, h4⟩ := run_append_arg_grows (P := Try.prog) w 73 ty 46 i0 _ 3 24 Try.underlying73 hi0 hz0 hz1 hz2 rfl (by decide) ad L.length c (flr L) (flr_len L) (hL.1.news ad rfl) ⟨b, off, none⟩ M.length cb (flr M) (flr_len M) hnews (by omega) (by unfold maxLen; omega) (by omega)
      obtain ⟨g, c', rfl, h5, h6⟩ := fin h3
      exact ⟨g, c', w', hr, h6, Kp.of_grown h4 (fun i e => by simp at e), Or.inr h5⟩
theorem flr1 (x : Rn) : flr [x] = x.cl := by simp [flr]
theorem vsrc {w : World} {vb : Nat} {x : Rn} (h : St 46 w vb x.cs) : Srcr w (some ⟨vb, 0, none⟩) [x] := by
  intro _
  refine ⟨vb, 0, rfl, h.lt, fun j u hu => ?_⟩
  rw [flr1] at hu
  rw [Nat.zero_add, h.cell j, ← hu]
  simp [Rn.cs, Rn.cl]
theorem ins_end (L : List Rn) (x : Rn) : L.take L.length ++ x :: L.drop L.length = L ++ [x] := by simp
set_option maxRecDepth 100000 in
set_option maxHeartbeats 4000000 in
/-- At the end. -/
theorem insert_end (L : List Rn) (x : Rn) (ao : Option Addr) (n c vb : Nat) (w : World) (hn : n = L.length) (h : Lst w ao c L) (hl : L.length ≤ 65536) (hv : St 46 w vb x.cs) :
    Calls Try.prog 61 #[.slice ao n c, .int .i64 (n : Int), .slice (some ⟨vb, 0, none⟩) 1 1] w (InsR L x n ao c w) := by
  obtain ⟨g, c', w', hr, h1, h2, h3⟩ := app_run (t2 := 27) (ty := 73) Try.underlying27 L [x] ao (some ⟨vb, 0, none⟩) c 1 w h (vsrc hv) (by simp; omega) (by simp)
  have hR : Hid (InsR L x n ao c w (.returned (.slice (some ⟨g, 0, none⟩) (L.length + 1) c')) w') := ⟨g, c', rfl, by rw [hn, ins_end]; exact h1, h2, h3⟩
  have hc1 := h.2.1
  have hc2 := h.2.2.1
  have hc3 := h.2.2.2.1
  unfold maxLen at hc2
  simp only [List.length_singleton] at hr
  rw [← hn] at hr hc1 hl hR
  have HN := hid hn
  clear h h1 h2 h3 hn hv
  cases ao with
  | none =>
    obtain rfl := hc3 rfl
    obtain rfl : n = 0 := by omega
    go_enter Try.func61, Try.ntmps61
    go_wp2_with (at_builtin; refine Lib.wpList_append_run _ rfl _ _ _ _ rfl _ _ rfl rfl _ _ hr ?_)
    go_ret
    exact hR.out
  | some ad =>
    by_cases hcc : c = n
    · subst hcc
      go_enter Try.func61, Try.ntmps61
      go_wp2_with (at_builtin; refine Lib.wpList_append_run _ rfl _ _ _ _ rfl _ _ rfl rfl _ _ hr ?_)
      go_ret
      exact hR.out
    · go_enter Try.func61, Try.ntmps61
      go_wp2_with (at_builtin; refine Lib.wpList_append_run _ rfl _ _ _ _ rfl _ _ rfl rfl _ _ hr ?_)
      go_ret
      exact hR.out
end Go.Proofs.Ytopnfjgkgoeleaa
