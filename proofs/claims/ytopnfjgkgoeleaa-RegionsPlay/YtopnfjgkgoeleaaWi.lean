/- regions: with: many are put, one by one. -/
import Derived.Test.YtopnfjgkgoeleaaIq
namespace Go.Proofs.Ytopnfjgkgoeleaa
open Go.RowKit
set_option linter.unusedVariables false
set_option linter.unusedSimpArgs false
/-- Where a list lies that came of another one: in a new block, or in that one's, with room only where that one had. -/
def Fro (ao : Option Addr) (n c : Nat) (ao' : Option Addr) (n' c' S : Nat) : Prop := ∀ k off, ao' = some ⟨k, off, none⟩ → S ≤ k ∨ ((∃ off', ao = some ⟨k, off', none⟩) ∧ (Rmb ao' n' c' k → Rmb ao n c k) ∧ (0 < c' → 0 < c))
theorem Fro.refl (ao : Option Addr) (n c S : Nat) : Fro ao n c ao n c S := fun k off e => Or.inr ⟨⟨off, e⟩, fun h => h, fun h => h⟩
theorem Fro.trans {a1 a2 a3 : Option Addr} {n1 c1 n2 c2 n3 c3 S S' : Nat} (h : Fro a1 n1 c1 a2 n2 c2 S) (k : Fro a2 n2 c2 a3 n3 c3 S') (hs : S ≤ S') : Fro a1 n1 c1 a3 n3 c3 S := by
  intro b off e
  rcases k b off e with h1 | ⟨⟨o, h1⟩, h2, h5⟩
  · exact Or.inl (by omega)
  · rcases h b o h1 with h3 | ⟨h3, h4, h6⟩
    · exact Or.inl h3
    · exact Or.inr ⟨h3, fun z => h4 (h2 z), fun z => h6 (h5 z)⟩
theorem Fro.rmb {ao ao' : Option Addr} {n c n' c' S k : Nat} (h : Fro ao n c ao' n' c' S) (hr : Rmb ao' n' c' k) : S ≤ k ∨ Rmb ao n c k := by
  obtain ⟨h1, off, h2⟩ := hr
  rcases h k off h2 with h3 | ⟨_, h4, _⟩
  · exact Or.inl h3
  · exact Or.inr (h4 ⟨h1, off, h2⟩)
theorem Fro.cut (ao : Option Addr) (n c i S : Nat) (hi : i ≤ c) : Fro ao n c ao i i S := fun k off e => Or.inr ⟨⟨off, e⟩, fun ⟨h, _⟩ => by omega, fun h => by omega⟩
theorem Fro.ins {ao : Option Addr} {n c g n' c' S : Nat} (h : Rmb ao n c g ∨ S ≤ g) : Fro ao n c (some ⟨g, 0, none⟩) n' c' S := by
  intro k off e
  cases e
  rcases h with h | h
  · exact Or.inr ⟨h.2, fun _ => h, fun _ => by have := h.1; omega⟩
  · exact Or.inl h
theorem Lst.cut {w : World} {ao : Option Addr} {c : Nat} {L : List Rn} (h : Lst w ao c L) (i : Nat) (hi : i ≤ L.length) : Lst w ao i (L.take i) := by
  have hl : (L.take i).length = i := by rw [List.length_take]; omega
  exact ⟨h.1.take i, by omega, by have := h.2.1; have := h.2.2.1; omega, fun e => by have := h.2.2.2.1 e; have := h.2.1; omega, fun h => by omega⟩
/-- What is told when the first k were put. -/
def sh (k : Nat) (r : List Rn × Nat × Int) : List Rn × Nat × Int := (r.1, k + r.2.1, r.2.2)
theorem sh_zero (r : List Rn × Nat × Int) : sh 0 r = r := by simp [sh]
theorem sh_step {L M : List Rn} {k : Nat} {x : Rn} (hk : k < M.length) (hx : x = M.getD k zRn) (h0 : plE L x = 0) : sh k (wth L (M.drop k)) = sh (k + 1) (wth (ins L x) (M.drop (k + 1))) := by
  rw [List.drop_eq_getElem_cons hk, ← gd hk, ← hx]
  simp only [wth, h0, if_true, sh]
  congr 2
  omega
theorem sh_err {L M : List Rn} {k : Nat} {x : Rn} (hk : k < M.length) (hx : x = M.getD k zRn) (h0 : plE L x ≠ 0) : sh k (wth L (M.drop k)) = (L, k, plE L x) := by
  rw [List.drop_eq_getElem_cons hk, ← gd hk, ← hx]
  simp only [wth, if_neg h0, sh]
  rfl
theorem sh_end {L M : List Rn} {k : Nat} (hk : k = M.length) : sh k (wth L (M.drop k)) = (L, k, 0) := by
  rw [List.drop_eq_nil_of_le (by omega)]
  simp [wth, sh]
/-- What with leaves. -/
def WthR (L M : List Rn) (ao : Option Addr) (c : Nat) (w : World) (e : Ending) (w' : World) : Prop :=
  ∃ ao' c', e = .returned (.tuple #[.slice ao' (wth L M).1.length c', .int .i64 (((wth L M).2.1 : Nat) : Int), .int .i64 (wth L M).2.2]) ∧ Lst w' ao' c' (wth L M).1 ∧ Kp (Rmb ao L.length c) w w' ∧ Fro ao L.length c ao' (wth L M).1.length c' w.heap.size
/-- What its loop holds. -/
structure WiI (L M : List Rn) (ao : Option Addr) (c : Nat) (w : World) (k : Nat) (Lk : List Rn) (aok : Option Addr) (ck : Nat) (W : World) : Prop where
  le : k ≤ M.length
  lst : Lst W aok ck Lk
  srt : Srt Lk
  len : Lk.length ≤ 65536
  wth : wth L M = sh k (wth Lk (M.drop k))
  kp : Kp (Rmb ao L.length c) w W
  fro : Fro ao L.length c aok Lk.length ck w.heap.size
theorem WiI.below {L M : List Rn} {ao : Option Addr} {c : Nat} {w : World} {k : Nat} {Lk : List Rn} {aok : Option Addr} {ck : Nat} {W W' : World} (h : WiI L M ao c w k Lk aok ck W) (b : Below W.heap.size W W') : WiI L M ao c w k Lk aok ck W' :=
  ⟨h.le, h.lst.below b, h.srt, h.len, h.wth, h.kp.trans (Kp.of_below (F := fun _ => False) b) (fun _ _ x => x.elim), h.fro⟩
theorem WiI.cut {L M : List Rn} {ao : Option Addr} {c : Nat} {w : World} {k : Nat} {Lk : List Rn} {aok : Option Addr} {ck : Nat} {W : World} (h : WiI L M ao c w k Lk aok ck W) : WiI L M ao c w k Lk aok Lk.length W :=
  ⟨h.le, by have := h.lst.cut Lk.length (Nat.le_refl _); rwa [List.take_length] at this, h.srt, h.len, h.wth, h.kp, h.fro.trans (Fro.cut _ _ _ _ w.heap.size h.lst.2.1) (Nat.le_refl _)⟩
theorem WiI.cut1 {L M : List Rn} {ao : Option Addr} {c : Nat} {w : World} {k nk : Nat} {Lk : List Rn} {aok : Option Addr} {ck : Nat} {W : World} (h : WiI L M ao c w k Lk aok ck W) (hn : nk = Lk.length) : WiI L M ao c w k Lk aok nk W := by rw [hn]; exact h.cut
theorem WiI.next {L M : List Rn} {ao : Option Addr} {c : Nat} {w : World} {k : Nat} {Lk : List Rn} {aok : Option Addr} {ck g c' : Nat} {W W' : World} {x : Rn} (h : WiI L M ao c w k Lk aok ck W) (hk : k < M.length) (hx : x = M.getD k zRn) (hm : Mayr x) (h0 : plE Lk x = 0)
    (hl : Lst W' (some ⟨g, 0, none⟩) c' (Lk.take (bey Lk x.a) ++ x :: Lk.drop (bey Lk x.a))) (kk : Kp (Rmb aok Lk.length ck) W W') (hg : Rmb aok Lk.length ck g ∨ W.heap.size ≤ g) : WiI L M ao c w (k + 1) (ins Lk x) (some ⟨g, 0, none⟩) c' W' := by
  have hn := plE_len h0
  have hl' := h.len
  refine ⟨by omega, hl, ins_srt h.srt hm h0 (by omega), by rw [ins_len]; omega, h.wth.trans (sh_step hk hx h0), h.kp.trans kk (fun i hi hr => ?_), h.fro.trans (S' := W.heap.size) (Fro.ins hg) h.kp.size⟩
  rcases h.fro.rmb hr with h1 | h1
  · omega
  · exact h1
end Go.Proofs.Ytopnfjgkgoeleaa
