/- What a file is behind a write. -/
import Derived.Test.YtlnknkeagonmpaaGreatFr
namespace Go.Proofs.YtlnknkeagonmpaaGreat
open Go.RowKit

theorem write_fin (D : Nat → Prop) (fb lm om : Nat) (pv pv' : Value) (sz M n p : Nat) (L : Nat → Int) (ps : List (Nat × List Int)) (xs : List Int) (vs' : List Value) (w W8 X8 w9 : World) (el : List (Int × Value × Nat)) (cl : Nat) (es9 : List (Int × Value × Nat)) (c9 : Nat)
    (HF : Fr D w ⟨fb, lm, om, pv⟩ sz L ps) (hM : M = max sz (p + n)) (hn : n = xs.length) (h1 : 1 ≤ n) (hr : p % 512 + n ≤ 512) (hb : p + n ≤ 268435456) (hnb : ps.length < 1000000000)
    (hl4 : ∀ b, pv'.ownBlock = some b → pv.ownBlock = some b ∨ w.heap.size ≤ b) (K8 : Kp (fun i => i = fb ∨ i = om ∨ pv.ownBlock = some i) w W8) (kq : Kp (fun _ => False) W8 X8)
    (HL8 : Sm (fun i => D i ∨ (w.heap.size ≤ i ∧ pv'.ownBlock ≠ some i)) W8 lm L zero el cl) (HST8 : St 123 W8 fb #[.int .i64 M, .map (some lm), .map (some om), pv']) (HPR8 : Pr (fun i => D i ∨ (w.heap.size ≤ i ∧ pv'.ownBlock ≠ some i)) W8 pv' (ps ++ [(p, xs)]) vs')
    (sm9 : Sm (fun i => (D i ∨ (w.heap.size ≤ i ∧ pv'.ownBlock ≠ some i)) ∨ (X8.heap.size ≤ i ∧ i < w9.heap.size)) w9 om (ov (ovs L ps) (p, xs)) L es9 c9) (k9 : Kp (fun i => i = om) X8 w9) (hcov : Cov es9 (ps ++ [(p, xs)])) :
    ∃ a' : Fa, (a'.fb = fb ∧ a'.lm = lm ∧ a'.om = om) ∧ (∀ i, i ∈ a'.own → i ∈ (Fa.mk fb lm om pv).own ∨ w.heap.size ≤ i) ∧
      Fr (fun i => D i ∨ (w.heap.size ≤ i ∧ i < w9.heap.size ∧ i ∉ a'.own)) w9 a' M L (ps ++ [(p, xs)]) ∧ Kp (fun i => i ∈ (Fa.mk fb lm om pv).own) w w9 := by
  have hlt := HF.lt
  have hfb : fb < w.heap.size := hlt fb (by rw [Fa.mem]; exact .inl rfl)
  have hlm : lm < w.heap.size := hlt lm (by rw [Fa.mem]; exact .inr (.inl rfl))
  have hom : om < w.heap.size := hlt om (by rw [Fa.mem]; exact .inr (.inr (.inl rfl)))
  have nl := HF.lm_ne
  have hne := HF.ne
  have hsb := HF.sb
  dsimp only at nl hne
  have nd0 : ∀ i, D i → i ≠ fb ∧ i ≠ lm ∧ i ≠ om ∧ ¬ pv.ownBlock = some i := fun i hi => by
    have := HF.nd i hi
    rw [Fa.mem] at this
    exact ⟨fun h => this (.inl h), fun h => this (.inr (.inl h)), fun h => this (.inr (.inr (.inl h))), fun h => this (.inr (.inr (.inr h)))⟩
  have k89 : Kp (fun i => i = om) W8 w9 := (kq.mono (G := fun i => i = om) (fun _ _ h => h.elim)).trans k9 (fun _ _ h => h)
  have z8 := K8.size
  have z89 := k89.size
  have zq := kq.size
  have pvlt : ∀ b, pv'.ownBlock = some b → b < W8.heap.size := by
    intro b hb
    rcases HPR8.row.2 with ⟨h4, _⟩ | ⟨g, cap, cur, h4, _, h5, _⟩
    · rw [h4] at hb; cases hb
    · rw [h4] at hb
      have : g = b := by simpa [Value.ownBlock] using hb
      subst this
      exact (Array.getElem?_eq_some_iff.1 h5).1
  have pvom : pv'.ownBlock ≠ some om := by
    intro h
    rcases hl4 _ h with h | h
    · exact (HF.fb_ne h).2.2 rfl
    · omega
  have mem' : ∀ i, i ∈ (Fa.mk fb lm om pv').own ↔ i = fb ∨ i = lm ∨ i = om ∨ pv'.ownBlock = some i := fun i => Fa.mem _ i
  have D1 : ∀ i, i < w9.heap.size → (D i ∨ (w.heap.size ≤ i ∧ pv'.ownBlock ≠ some i)) → D i ∨ (w.heap.size ≤ i ∧ i < w9.heap.size ∧ i ∉ (Fa.mk fb lm om pv').own) := by
    rintro i hi (h | ⟨h, h'⟩)
    · exact .inl h
    · refine .inr ⟨h, hi, fun hm => ?_⟩
      rcases (mem' i).1 hm with rfl | rfl | rfl | e
      · omega
      · omega
      · omega
      · exact h' e
  have D2 : ∀ i, i < w9.heap.size → ((D i ∨ (w.heap.size ≤ i ∧ pv'.ownBlock ≠ some i)) ∨ (X8.heap.size ≤ i ∧ i < w9.heap.size)) → D i ∨ (w.heap.size ≤ i ∧ i < w9.heap.size ∧ i ∉ (Fa.mk fb lm om pv').own) := by
    rintro i hi (h | ⟨h, h'⟩)
    · exact D1 i hi h
    · exact D1 i hi (.inr ⟨by omega, fun e => by have := pvlt i e; omega⟩)
  have DM : ∀ i, (D i ∨ (w.heap.size ≤ i ∧ pv'.ownBlock ≠ some i)) → ¬ i = om := by
    rintro i (h | h) rfl
    · exact (nd0 _ h).2.2.1 rfl
    · omega
  refine ⟨⟨fb, lm, om, pv'⟩, ⟨rfl, rfl, rfl⟩, fun i hi => ?_, ⟨HST8.kp k89 (fun e => nl.2 e.symm), ⟨_, _, (HL8.kp k89 hne DM).mono D1⟩, ⟨es9, c9, ?_, hcov⟩, ⟨vs', (HPR8.kp k89 (fun b hb e => pvom (e ▸ hb)) DM).mono D1⟩, hne, fun i hi => ?_, fun i hi => ?_, fun i hi => HF.lz i (by omega), fun q hq => ?_, by omega, by simp; omega⟩, ?_⟩
  · rcases (mem' i).1 hi with rfl | rfl | rfl | e
    · exact .inl (by rw [Fa.mem]; exact .inl rfl)
    · exact .inl (by rw [Fa.mem]; exact .inr (.inl rfl))
    · exact .inl (by rw [Fa.mem]; exact .inr (.inr (.inl rfl)))
    · rcases hl4 _ e with h | h
      · exact .inl (by rw [Fa.mem]; exact .inr (.inr (.inr h)))
      · exact .inr h
  · rw [ovs_snoc]
    exact sm9.mono D2
  · rcases hi with h | ⟨_, _, h⟩
    · intro hm
      have h0 := nd0 i h
      have h2 := HF.db i h
      rcases (mem' i).1 hm with e | e | e | e
      · exact h0.1 e
      · exact h0.2.1 e
      · exact h0.2.2.1 e
      · rcases hl4 _ e with h' | h'
        · exact h0.2.2.2 h'
        · omega
    · exact h
  · rcases hi with h | ⟨_, h, _⟩
    · have := HF.db i h; omega
    · exact h
  · rcases List.mem_append.1 hq with h | h
    · have := HF.pb q h
      exact ⟨this.1, this.2.1, by omega⟩
    · simp at h
      subst h
      exact ⟨by show 1 ≤ xs.length; omega, by show p % 512 + xs.length ≤ 512; omega, by show p + xs.length ≤ M; omega⟩
  · refine (K8.mono (fun i hi h => ?_)).trans k89 (fun i hi h => ?_)
    · rw [Fa.mem]
      rcases h with h | h | h
      · exact .inl h
      · exact .inr (.inr (.inl h))
      · exact .inr (.inr (.inr h))
    · rw [Fa.mem]; exact .inr (.inr (.inl h))
end Go.Proofs.YtlnknkeagonmpaaGreat
