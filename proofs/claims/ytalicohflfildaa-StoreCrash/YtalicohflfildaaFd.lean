/- Fates that come in; append of fates. -/
import Derived.Test.YtalicohflfildaaNw
import Derived.Test.YtalicohflfildaaWr
namespace Go.Proofs.Ytalicohflfildaa
open Go.RowKit

def fcs (ft : List (Int × Int)) : List Value := ft.flatMap (fun f => [.int .i64 f.1, .int .i64 f.2])
theorem fcs_len (ft : List (Int × Int)) : (fcs ft).length = ft.length * 2 := by
  induction ft with
  | nil => rfl
  | cons f ft ih =>
    have : fcs (f :: ft) = [.int .i64 f.1, .int .i64 f.2] ++ fcs ft := rfl
    rw [this, List.length_append, ih]
    simp
    omega
theorem fcs_append (a b : List (Int × Int)) : fcs (a ++ b) = fcs a ++ fcs b := by simp [fcs]
theorem fcs_get (ft : List (Int × Int)) (i : Nat) (hi : i < ft.length) : (fcs ft)[i * 2]? = some (.int .i64 (ft.getD i (0, 0)).1) ∧ (fcs ft)[i * 2 + 1]? = some (.int .i64 (ft.getD i (0, 0)).2) := by
  induction ft generalizing i with
  | nil => simp at hi
  | cons f ft ih =>
    have h1 : fcs (f :: ft) = .int .i64 f.1 :: .int .i64 f.2 :: fcs ft := rfl
    rw [h1]
    cases i with
    | zero => exact ⟨rfl, rfl⟩
    | succ i =>
      have := ih i (by simp at hi; omega)
      rw [show (i + 1) * 2 = i * 2 + 1 + 1 by omega]
      simpa using this
theorem fcs_one (ft : List (Int × Int)) : ∀ u ∈ fcs ft, u.oneCell' = true := by
  intro u hu
  simp only [fcs, List.mem_flatMap, List.mem_cons, List.not_mem_nil, or_false] at hu
  obtain ⟨f, _, h | h⟩ := hu <;> subst h <;> rfl
/-- Fates that came in. -/
def FSrc (w : World) (ao : Option Addr) (ft : List (Int × Int)) : Prop := 0 < ft.length → ∃ b off, ao = some ⟨b, off, none⟩ ∧ b < w.heap.size ∧ ∀ j u, (fcs ft)[j]? = some u → w.cell? ⟨b, off + j, none⟩ = some u
theorem FSrc.kp {F : Nat → Prop} {w w' : World} {ao : Option Addr} {ft : List (Int × Int)} (h : FSrc w ao ft) (k : Kp F w w') (hf : ∀ b off, ao = some ⟨b, off, none⟩ → b < w.heap.size → ¬ F b) : FSrc w' ao ft := by
  intro hp
  obtain ⟨b, off, rfl, hb, hc⟩ := h hp
  exact ⟨b, off, rfl, Nat.lt_of_lt_of_le hb k.size, fun j u hu => by rw [← hc j u hu]; exact kp_cell k (hc j u hu) (hf b off rfl hb) ▸ (hc j u hu).symm ▸ rfl⟩
theorem FSrc.at {w : World} {ao : Option Addr} {ft : List (Int × Int)} (h : FSrc w ao ft) {k : Nat} (hk : k < ft.length) : ∃ b off, ao = some ⟨b, off, none⟩ ∧ b < w.heap.size ∧ w.cell? ⟨b, off + k * 2, none⟩ = some (.int .i64 (ft.getD k (0, 0)).1) ∧ w.cell? ⟨b, off + k * 2 + 1, none⟩ = some (.int .i64 (ft.getD k (0, 0)).2) := by
  obtain ⟨b, off, e, hb, hc⟩ := h (by omega)
  have := fcs_get ft k hk
  exact ⟨b, off, e, hb, hc _ _ this.1, by have := hc _ _ this.2; rwa [← Nat.add_assoc] at this⟩
theorem run_append_off {P : Program} (w : World) (t ty e : TypeId) (i : TypeInfo) (ht : P.underlying t = some (.slice e)) (hi : P.info? e = some i)
    (g off sLen sCap : Nat) (cur : Array Value) (hg : w.heap[g]? = some (.cells cur e (0, 0)))
    (a : Addr) (m c : Nat) (news : List Value) (hl : news.length = m * i.size) (hnews : ∀ j u, news[j]? = some u → w.cell? (a.add j) = some u) (h1 : ∀ u ∈ news, u.oneCell' = true)
    (hroom : sLen + m ≤ sCap) (hfit : off + sLen * i.size + news.length ≤ cur.size) :
    (Builtin.append_ #[t, t] ty #[.slice (some ⟨g, off, none⟩) sLen sCap, .slice (some a) m c]).run P w =
      .ok (.slice (some ⟨g, off, none⟩) (sLen + m) sCap) (w.setRow g (cur.toList.take (off + sLen * i.size) ++ news ++ cur.toList.drop (off + sLen * i.size + news.length)).toArray) := by
  have hf := run_firstCells_some (P := P) w i.size m a m c news hl hnews
  have hst := run_storeCells_at P g (off + sLen * i.size) e news 0 cur w hg (by simpa using hfit) h1
  simp only [Nat.add_zero] at hst
  simp [Builtin.append_, run_underlying ht, sizeOf, typeInfo, hi, Builtin.lenOf, hroom, hf, add_o, hst]
theorem info58 : (Try.prog.info? 58).map (fun i => (i.zero, i.size, i.bytes)) = some (some (.agg #[.int .i64 0, .int .i64 0]), 2, 16) := by kernel_rfl
/-- A new row of fates. -/
theorem fv_new {W : World} {ft : List (Int × Int)} {cap : Nat} {z : Array Value} (h1 : ft.length ≤ cap) (h2 : cap ≤ 9223372036854775807) (hz : z.size = 2) (w : World) (hW : W = w.drew.alloc (.cells ((fcs ft).toArray ++ Builtin.zeroCells z (cap - ft.length)) 58)) : Fv W (.slice (some ⟨w.heap.size, 0, none⟩) ft.length cap) ft := by
  refine .inr ⟨w.heap.size, 0, cap, (fcs ft).toArray ++ Builtin.zeroCells z (cap - ft.length), rfl, by rw [hW]; exact heap_alloc_new w.drew _, h1, h2, ?_, fun i hi => ?_⟩
  · rw [Array.size_append, List.size_toArray, fcs_len, size_zeroCells, hz]; omega
  · have hl := fcs_len ft
    obtain ⟨e1, e2⟩ := fcs_get ft i hi
    rw [Nat.zero_add]
    constructor
    · rw [Array.getElem?_append_left (by simp; omega)]; simpa using e1
    · rw [Array.getElem?_append_left (by simp; omega)]; simpa using e2
set_option maxRecDepth 100000 in
set_option linter.unusedSimpArgs false in
theorem fv_append (w : World) (fv : Value) (ft : List (Int × Int)) (hf : Fv w fv ft) (ao : Option Addr) (m c : Nat) (fts : List (Int × Int)) (hm : m = fts.length) (hno : ao = none → m = 0 ∧ c = 0) (hs : FSrc w ao fts) (hb : ft.length + m ≤ 1000000) (ty : TypeId) :
    ∃ v' w', (Builtin.append_ #[22, 22] ty #[fv, .slice ao m c]).run Try.prog w = .ok v' w' ∧ Fv w' v' (ft ++ fts) ∧ Kp (fun i => fv.ownBlock = some i) w w' ∧ (v'.ownBlock = fv.ownBlock ∨ v'.ownBlock = some w.heap.size) := by
  obtain ⟨i0, hi, hz0, hz1, hz2⟩ := info_parts info58
  have ht := Try.underlying22
  by_cases h0 : m = 0
  · have hfts : fts = [] := List.eq_nil_of_length_eq_zero (by omega)
    subst hfts
    subst h0
    rw [List.append_nil]
    rcases hf with ⟨rfl, rfl⟩ | ⟨b, o, cap, cs, rfl, h2, h3, h4, h5, h6⟩
    · refine ⟨.slice none 0 0, w, ?_, .inl ⟨rfl, rfl⟩, Kp.refl _ _, .inl rfl⟩
      cases ao with
      | none => simp [Builtin.append_, run_underlying ht, sizeOf, typeInfo, hi, Builtin.lenOf, Builtin.firstCells]
      | some x => simp [Builtin.append_, run_underlying ht, sizeOf, typeInfo, hi, Builtin.lenOf, Builtin.firstCells, loadCells, loadCellsFrom]
    · cases ao with
      | none =>
        refine ⟨.slice (some ⟨b, o * 2, none⟩) ft.length cap, w, ?_, .inr ⟨b, o, cap, cs, rfl, h2, h3, h4, h5, h6⟩, Kp.refl _ _, .inl rfl⟩
        simp [Builtin.append_, run_underlying ht, sizeOf, typeInfo, hi, Builtin.lenOf, Builtin.firstCells, h3, storeCells]
      | some x =>
        refine ⟨.slice (some ⟨b, o * 2, none⟩) ft.length cap, w, ?_, .inr ⟨b, o, cap, cs, rfl, h2, h3, h4, h5, h6⟩, Kp.refl _ _, .inl rfl⟩
        simp [Builtin.append_, run_underlying ht, sizeOf, typeInfo, hi, Builtin.lenOf, Builtin.firstCells, loadCells, loadCellsFrom, h3, storeCells]
  · obtain ⟨x, off, rfl, hxl, hxc⟩ := hs (by omega)
    have hl : (fcs fts).length = m * i0.size := by rw [fcs_len, hz1, hm]
    have hnews : ∀ j u, (fcs fts)[j]? = some u → w.cell? ((⟨x, off, none⟩ : Addr).add j) = some u := fun j u hu => by rw [add_o]; exact hxc j u hu
    have hcz : (Value.agg #[.int .i64 0, .int .i64 0]).cells.size = 2 := rfl
    rcases hf with ⟨rfl, rfl⟩ | ⟨b, o, cap, cs, rfl, h2, h3, h4, h5, h6⟩
    · have hr := run_append_nil (P := Try.prog) w 22 ty 58 i0 _ ht hi hz0 ⟨x, off, none⟩ m c (fcs fts) hl hnews (by omega) (by omega) (by rw [hz2]; simp at hb; omega)
      refine ⟨_, _, hr, ?_, ((Kp.refl _ _).drew).alloc _, .inr rfl⟩
      rw [List.nil_append, hm]
      exact fv_new (grownCap_ge _ _ _ _) (by have := grownCap_le_maxLen w fts.length 0 58 (by unfold maxLen; omega); unfold maxLen at this; omega) hcz w rfl
    · by_cases hroom : ft.length + m ≤ cap
      · have hsz : o * 2 + ft.length * i0.size + (fcs fts).length ≤ cs.size := by rw [hz1, fcs_len, ← hm]; omega
        have hcs : cs.toList.length = cs.size := Array.length_toList (xs := cs)
        have hr := run_append_off (P := Try.prog) w 22 ty 58 i0 ht hi b (o * 2) ft.length cap cs h2 ⟨x, off, none⟩ m c (fcs fts) hl hnews (fcs_one fts) hroom hsz
        refine ⟨_, _, hr, ?_, ?_, .inl rfl⟩
        · refine .inr ⟨b, o, cap, _, by rw [List.length_append, ← hm], setRow_heap w b cs _ 58 _ h2, by rw [List.length_append, ← hm]; exact hroom, h4, ?_, fun i hi' => ?_⟩
          · rw [List.size_toArray, List.length_append, List.length_append, List.length_take, List.length_drop, hcs, hz1, fcs_len, ← hm]
            rw [hz1, fcs_len, ← hm] at hsz
            omega
          · rw [hz1]
            have hcl := fcs_len fts
            have htk : (cs.toList.take (o * 2 + ft.length * 2)).length = o * 2 + ft.length * 2 := by rw [List.length_take, hcs]; rw [hz1] at hsz; omega
            by_cases hil : i < ft.length
            · obtain ⟨e1, e2⟩ := h6 i hil
              have e3 : (ft ++ fts).getD i (0, 0) = ft.getD i (0, 0) := by rw [List.getD_eq_getElem?_getD, List.getD_eq_getElem?_getD, List.getElem?_append_left hil]
              rw [e3, List.getElem?_toArray, List.getElem?_toArray]
              constructor
              · rw [List.getElem?_append_left (by rw [List.length_append, htk]; omega), List.getElem?_append_left (by rw [htk]; omega), List.getElem?_take, if_pos (by omega)]; simpa using e1
              · rw [List.getElem?_append_left (by rw [List.length_append, htk]; omega), List.getElem?_append_left (by rw [htk]; omega), List.getElem?_take, if_pos (by omega)]; simpa using e2
            · have hil2 : i - ft.length < fts.length := by rw [List.length_append] at hi'; omega
              obtain ⟨e1, e2⟩ := fcs_get fts (i - ft.length) hil2
              have e3 : (ft ++ fts).getD i (0, 0) = fts.getD (i - ft.length) (0, 0) := by rw [List.getD_eq_getElem?_getD, List.getD_eq_getElem?_getD, List.getElem?_append_right (by omega)]
              rw [e3, List.getElem?_toArray, List.getElem?_toArray]
              constructor
              · rw [List.getElem?_append_left (by rw [List.length_append, htk]; omega), List.getElem?_append_right (by rw [htk]; omega), htk, show (o + i) * 2 - (o * 2 + ft.length * 2) = (i - ft.length) * 2 by omega]; exact e1
              · rw [List.getElem?_append_left (by rw [List.length_append, htk]; omega), List.getElem?_append_right (by rw [htk]; omega), htk, show (o + i) * 2 + 1 - (o * 2 + ft.length * 2) = (i - ft.length) * 2 + 1 by omega]; exact e2
        · refine ⟨rfl, rfl, rfl, by simp, fun k _ hk => setRow_other w b k _ (fun e => hk (by rw [e]; rfl))⟩
      · have hol : ∀ j v, (fcs ft)[j]? = some v → w.cell? ((⟨b, o * 2, none⟩ : Addr).add j) = some v := by
          intro j v hj
          rw [add_o, cell_of_row w b _ cs 58 _ h2]
          have hjl : j < (fcs ft).length := (List.getElem?_eq_some_iff.1 hj).1
          rw [fcs_len] at hjl
          obtain ⟨e1, e2⟩ := h6 (j / 2) (by omega)
          obtain ⟨f1, f2⟩ := fcs_get ft (j / 2) (by omega)
          rcases Nat.mod_two_eq_zero_or_one j with hp | hp
          · have e : j = j / 2 * 2 := by omega
            rw [e] at hj
            rw [f1] at hj
            rw [← hj, show o * 2 + j = (o + j / 2) * 2 by omega]
            exact e1
          · have e : j = j / 2 * 2 + 1 := by omega
            rw [e] at hj
            rw [f2] at hj
            rw [← hj, show o * 2 + j = (o + j / 2) * 2 + 1 by omega]
            exact e2
        have hr := run_append_grow (P := Try.prog) w 22 ty 58 i0 _ ht hi hz0 ⟨b, o * 2, none⟩ ft.length cap (fcs ft) (by rw [fcs_len, hz1]) hol ⟨x, off, none⟩ m c (fcs fts) hl hnews (by omega) (by omega) (growslice_fits (by omega) (by rw [hz2]; omega))
        refine ⟨_, _, hr, ?_, ((Kp.refl _ _).drew).alloc _, .inr rfl⟩
        have e : ft.length + m = (ft ++ fts).length := by rw [List.length_append, hm]
        rw [e]
        refine fv_new (grownCap_ge _ _ _ _) (by have := grownCap_le_maxLen w (ft ++ fts).length cap 58 (by unfold maxLen; omega); unfold maxLen at this; omega) hcz w ?_
        rw [fcs_append]
        have e2 : (fcs ft).toArray ++ (fcs fts).toArray = (fcs ft ++ fcs fts).toArray := by simp
        rw [e2]
end Go.Proofs.Ytalicohflfildaa
