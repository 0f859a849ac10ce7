/- regions: the law's laid. -/
import Derived.Test.YtopnfjgkgoeleaaWk
import Derived.Laws.AppendOwnNone
import Derived.Laws.OwnMore
namespace Go.Proofs.Ytopnfjgkgoeleaa
open Go.RowKit
set_option linter.unusedVariables false
set_option linter.unusedSimpArgs false
/-- append onto a row of one's own of a slice that may be nil or not. -/
theorem wpList_append_any {P : Program} {w : World} {ops : Array Oper} {rest : List Oper} {o : Oper} {a : Act} {Q : Exit → Act → World → Prop} (hgd : o.guard = none) (s x : Operand) (t : TypeId)
    (ho : o.op = .call { callee := .builtin .append, args := #[s, x], argTypes := #[t, t] }) (base : Nat) (e : TypeId) (z : Value) (size bytes : Nat) (ht : P.underlying t = some (.slice e)) (hinfo : (P.info? e).map (fun i => (i.zero, i.size, i.bytes)) = some (some z, size, bytes)) (hzs : z.cells.size = size) (hsz : 0 < size)
    (v : Value) (n : Nat) (xs : List Value) (hs : a.eval s = v) (hown : w.ownsRow base e size v n xs)
    (ao : Option Addr) (m c : Nat) (news : List Value) (hx : a.eval x = .slice ao m c) (hnone : ao = none → m = 0 ∧ c = 0) (hl : news.length = m * size) (hnews : ∀ ad, ao = some ad → ∀ j u, news[j]? = some u → w.cell? (ad.add j) = some u) (h1 : ∀ u ∈ news, u.oneCell' = true)
    (h63 : n + m ≤ maxLen) (hbytes : (n + m) * bytes ≤ 140737488355328) (hbase : base ≤ w.heap.size)
    (h : ∀ v' w', w'.ownsRow base e size v' (n + m) (xs ++ news) → Kp (fun i => v.ownBlock = some i) w w' → (v'.ownBlock = v.ownBlock ∨ v'.ownBlock = some w.heap.size) → wpList P ops Q rest (a.put o.dst v') w') : wpList P ops Q (o :: rest) a w := by
  obtain ⟨i0, hi, hz0, hz1, hz2⟩ := info_parts hinfo
  cases ao with
  | none =>
    obtain ⟨hm0, hc⟩ := hnone rfl
    subst hm0 hc
    obtain rfl : news = [] := List.eq_nil_of_length_eq_zero (by simpa using hl)
    refine wpList_append_own_none hgd s x t ho base e i0 size ht hi v n xs hs hown hx (h v w ?_ (Kp.refl _ _) (.inl rfl))
    rw [Nat.add_zero, List.append_nil]
    exact hown
  | some ad =>
    refine wpList_append_own_at w hgd s x t ho base e i0 z size bytes ht hi hz0 hz1 hz2 hzs hsz v n xs hs hown ad m c news hx hl (hnews ad rfl) h1 h63 hbytes hbase ?_
    intro v' w' h2 h3 _ h4
    exact h v' w' h2 (Kp.of_grown h3 (fun i e => e.symm ▸ rfl)) h4
theorem ownsRow_mono {w : World} {base base' n size : Nat} {e : TypeId} {v : Value} {xs : List Value} (h : w.ownsRow base e size v n xs) (hb : base' ≤ base) : w.ownsRow base' e size v n xs := by
  refine ⟨h.1, ?_⟩
  rcases h.2 with h2 | ⟨g, cap, cur, rfl, h1, h2⟩
  · exact .inl h2
  · exact .inr ⟨g, cap, cur, rfl, Nat.le_trans hb h1, h2⟩
theorem ownsRow_kp {F : Nat → Prop} {w w' : World} {base n size : Nat} {e : TypeId} {v : Value} {xs : List Value} (h : w.ownsRow base e size v n xs) (k : Kp F w w') (hf : ∀ b, v.ownBlock = some b → ¬ F b) : w'.ownsRow base e size v n xs := by
  refine ⟨h.1, ?_⟩
  rcases h.2 with h2 | ⟨g, cap, cur, rfl, h1, h2, h3⟩
  · exact .inl h2
  · exact .inr ⟨g, cap, cur, rfl, h1, (k.block g (Array.getElem?_eq_some_iff.1 h2).1 (hf g rfl)).trans h2, h3⟩
/-- One may be put. -/
def okp (L : List Rn) (x : Rn) : Bool := mayb x && (plE L x == 0)
theorem pu1_yes {L : List Rn} {x : Rn} (h : okp L x = true) : puN L [x] = 1 ∧ puE L [x] = 0 ∧ puL L [x] = ins L x ∧ Mayr x ∧ plE L x = 0 := by
  unfold okp at h
  simp only [Bool.and_eq_true, beq_iff_eq] at h
  have ha : allM [x] = true := by simp [allM, h.1]
  simp [puN, puE, puL, ha, wth, h.2]
  exact (mayb_iff x).1 h.1
theorem pu1_no {L : List Rn} {x : Rn} (h : okp L x = false) : puN L [x] = 0 ∧ puE L [x] ≠ 0 ∧ puL L [x] = L := by
  unfold okp at h
  cases hm : mayb x with
  | false =>
    have ha : allM [x] = false := by simp [allM, hm]
    simp [puN, puE, puL, ha]
  | true =>
    have ha : allM [x] = true := by simp [allM, hm]
    have hp : plE L x ≠ 0 := by intro e; simp [hm, e] at h
    simp [puN, puE, puL, ha, wth, hp]
/-- What laid's loop holds. -/
structure LdI (base : Nat) (w : World) (B : Nat) (v : Value) (ao : Option Addr) (c : Nat) (L S : List Rn) (W : World) : Prop where
  rg : Rg W B ao c L
  own : Ownr W base v S
  pm : L.Perm S
  bl : Below base w W
  hB : base ≤ B
  ha : ∀ k off, ao = some ⟨k, off, none⟩ → base ≤ k
  hd : ∀ g, v.ownBlock = some g → ∀ off, ao ≠ some ⟨g, off, none⟩
theorem own_lt {w : World} {base g : Nat} {v : Value} {l : List Rn} (h : Ownr w base v l) (e : v.ownBlock = some g) : base ≤ g ∧ g < w.heap.size ∧ ∃ cur, w.heap[g]? = some (.cells cur 46 (0, 0)) := by
  rcases h.2 with ⟨rfl, _⟩ | ⟨g', cap, cur, rfl, hb, hc, _⟩
  · simp [Value.ownBlock] at e
  · simp [Value.ownBlock] at e
    subst e
    exact ⟨hb, (Array.getElem?_eq_some_iff.1 hc).1, cur, hc⟩
theorem rb_ne {w : World} {B g : Nat} {v : Value} {cur : Array Value} (h : Rb w B v) (hg : w.heap[g]? = some (.cells cur 46 (0, 0))) : g ≠ B := by
  rintro rfl
  unfold Rb St at h
  rw [hg] at h
  simp at h
/-- A put keeps rows. -/
theorem LdI.put {base : Nat} {w : World} {B : Nat} {v : Value} {ao : Option Addr} {c : Nat} {L S L' : List Rn} {W W' : World} (h : LdI base w B v ao c L S W) (hw : base ≤ w.heap.size) (k : Chg W B ao L.length c L' W') :
    ∃ ao' c', Rg W' B ao' c' L' ∧ Ownr W' base v S ∧ Below base w W' ∧ (∀ k off, ao' = some ⟨k, off, none⟩ → base ≤ k) ∧ (∀ g, v.ownBlock = some g → ∀ off, ao' ≠ some ⟨g, off, none⟩) := by
  obtain ⟨ao', c', h1, h2, h3⟩ := k
  have hs := h.bl.size
  refine ⟨ao', c', h1, ownsRow_kp h.own h2 ?_, ?_, ?_, ?_⟩
  · intro g e x
    obtain ⟨_, _, cur, hg⟩ := own_lt h.own e
    rcases x with x | ⟨_, off, x⟩
    · exact rb_ne h.rg.rb hg x
    · exact h.hd g e off x
  · exact h.bl.trans (h2.below (by omega) (fun i x => x.elim (fun e => by have := h.hB; omega) (fun ⟨_, off, e⟩ => h.ha i off e)))
  · intro k off e
    rcases h3 k off e with h4 | ⟨⟨o2, h4⟩, _⟩
    · omega
    · exact h.ha k o2 h4
  · intro g e off x
    rcases h3 g off x with h4 | ⟨⟨o2, h4⟩, _⟩
    · have := (own_lt h.own e).2.1; omega
    · exact h.hd g e o2 h4
end Go.Proofs.Ytopnfjgkgoeleaa
