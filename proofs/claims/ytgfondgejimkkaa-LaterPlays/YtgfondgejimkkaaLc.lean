/- later: what waits, in memory: the line, two maps by where runs begin and end; empty. -/
import Derived.Test.YtgfondgejimkkaaLr
import Derived.Test.YtgfondgejimkkaaMp
import Derived.Test.YtgfondgejimkkaaNa
import Derived.Carry
namespace Go.Proofs.Ytgfondgejimkkaa
open Go.RowKit
set_option linter.unusedVariables false
/-- What a map says of those that wait. -/
def Kys (es : List (Int × Value × Nat)) (L : List Nat) (c : Nat → Rn) (f : Rn → Int) : Prop := ∀ x u, mget es x = some u ↔ ∃ b ∈ L, f (c b) = x ∧ u = ptr b
def mki : Int → Value := Value.int .i64
structure Lc (c : Nat → Rn) (w : World) (Q B mb me : Nat) (v : Value) (L : List Nat) : Prop where
  st : St 73 w Q #[ptr B, .map (some mb), .map (some me), .int .i64 (sz (L.map c))]
  ln : Ln c w 0 B v L
  hp : Hpd c L
  bm : ∃ es k, Mp mki w mb es k ∧ Kys es L c Rn.a
  em : ∃ es k, Mp mki w me es k ∧ Kys es L c Rn.e
  nm : mb ≠ me
  ap : Ap (L.map c)
  len : L.length ≤ 4096
/-- Its blocks. -/
def Fp (Q B mb me : Nat) (v : Value) (L : List Nat) (k : Nat) : Prop := k = Q ∨ k = B ∨ k = mb ∨ k = me ∨ LnF v L k
theorem map_cells {w : World} {g : Nat} {es : Array MapEntry} {k : Nat} {cs : Array Value} {t : TypeId} (h : w.heap[g]? = some (.map es k)) (k2 : w.heap[g]? = some (.cells cs t (0, 0))) : False := by
  rw [h] at k2
  cases k2
theorem Mp.kp {F : Nat → Prop} {w w' : World} {b : Nat} {es : List (Int × Value × Nat)} {k : Nat} (h : Mp mki w b es k) (kk : Kp F w w') (hf : ¬ F b) : Mp mki w' b es k := h.of_block (kk.block b h.lt hf)
theorem Lc.kp {c : Nat → Rn} {F : Nat → Prop} {w w' : World} {Q B mb me : Nat} {v : Value} {L : List Nat} (h : Lc c w Q B mb me v L) (k : Kp F w w') (hf : ∀ i, Fp Q B mb me v L i → ¬ F i) : Lc c w' Q B mb me v L := by
  obtain ⟨eb, kb, m1, m2⟩ := h.bm
  obtain ⟨ee, ke, n1, n2⟩ := h.em
  exact ⟨h.st.kp k (hf _ (.inl rfl)), h.ln.kp k (hf _ (.inr (.inl rfl))) (fun g e => hf _ (.inr (.inr (.inr (.inr (.inl e)))))) (fun b hb => hf _ (.inr (.inr (.inr (.inr (.inr hb)))))), h.hp, ⟨eb, kb, m1.kp k (hf _ (.inr (.inr (.inl rfl)))), m2⟩, ⟨ee, ke, n1.kp k (hf _ (.inr (.inr (.inr (.inl rfl))))), n2⟩, h.nm, h.ap, h.len⟩
theorem Lc.kp0 {c : Nat → Rn} {w w' : World} {Q B mb me : Nat} {v : Value} {L : List Nat} (h : Lc c w Q B mb me v L) (k : Kp (fun _ => False) w w') : Lc c w' Q B mb me v L := h.kp k (fun _ _ h => h)
theorem Lc.lt {c : Nat → Rn} {w : World} {Q B mb me : Nat} {v : Value} {L : List Nat} (h : Lc c w Q B mb me v L) {i : Nat} (hi : Fp Q B mb me v L i) : i < w.heap.size := by
  obtain ⟨eb, kb, m1, m2⟩ := h.bm
  obtain ⟨ee, ke, n1, n2⟩ := h.em
  rcases hi with rfl | rfl | rfl | rfl | hi | hi
  · exact h.st.lt
  · exact h.ln.st.lt
  · exact m1.lt
  · exact n1.lt
  · obtain ⟨cur, hg, _⟩ := ownb h.ln.own hi
    exact (Array.getElem?_eq_some_iff.1 hg).1
  · obtain ⟨s, hs⟩ := h.ln.wt hi
    exact hs.lt
theorem ln_congr {c c' : Nat → Rn} {w : World} {base B : Nat} {v : Value} {L : List Nat} (h : Ln c w base B v L) (e : ∀ b ∈ L, c' b = c b) : Ln c' w base B v L :=
  ⟨h.st, h.own, fun i hi => by have := h.tr i hi; unfold Wt at this ⊢; rw [e _ (gn_mem hi)]; exact this, fun b hb => by rw [e b hb]; exact h.may b hb⟩
theorem hpd_congr {c c' : Nat → Rn} {L : List Nat} (h : Hpd c L) (e : ∀ b ∈ L, c' b = c b) : Hpd c' L := by
  unfold Hpd at *
  refine h.congr (fun k hk => ?_)
  unfold kf key
  rw [e _ (gn_mem hk)]
theorem Kys.congr {es : List (Int × Value × Nat)} {L : List Nat} {c c' : Nat → Rn} {f : Rn → Int} (h : Kys es L c f) (e : ∀ b ∈ L, c' b = c b) : Kys es L c' f := fun x u => by
  rw [h x u]
  constructor
  · rintro ⟨b, hb, h1, h2⟩; exact ⟨b, hb, by rw [e b hb]; exact h1, h2⟩
  · rintro ⟨b, hb, h1, h2⟩; exact ⟨b, hb, by rw [← e b hb]; exact h1, h2⟩
theorem map_congr {L : List Nat} {c c' : Nat → Rn} (e : ∀ b ∈ L, c' b = c b) : L.map c' = L.map c := List.map_congr_left e
theorem Kys.put {es : List (Int × Value × Nat)} {L L' : List Nat} {c : Nat → Rn} {f : Rn → Int} {b k : Nat} (h : Kys es L c f) (hp : L'.Perm (b :: L)) (hn : mget es (f (c b)) = none) : Kys (es ++ [(f (c b), ptr b, k)]) L' c f := by
  have hput : mput es (f (c b)) (ptr b) k = es ++ [(f (c b), ptr b, k)] := by
    have hg := fidx_get es (f (c b)) 0
    rcases fidx_put es (f (c b)) (ptr b) 0 k with ⟨_, h2, _, _⟩ | ⟨j, u, h1, _⟩
    · exact h2
    · rw [h1, hn] at hg; cases hg
  intro x u
  rw [← hput, mget_put]
  split
  · rename_i e
    constructor
    · intro e2
      exact ⟨b, hp.mem_iff.2 (by simp), e.symm, by simpa using e2.symm⟩
    · rintro ⟨b', hb', e1, e2⟩
      rcases List.mem_cons.1 (hp.mem_iff.1 hb') with rfl | hb'
      · rw [e2]
      · have := (h x (ptr b')).2 ⟨b', hb', e1, rfl⟩
        rw [e, hn] at this
        cases this
  · rename_i e
    rw [h x u]
    constructor
    · rintro ⟨b', hb', e1, e2⟩; exact ⟨b', hp.mem_iff.2 (by simp [hb']), e1, e2⟩
    · rintro ⟨b', hb', e1, e2⟩
      rcases List.mem_cons.1 (hp.mem_iff.1 hb') with rfl | hb'
      · exact absurd e1.symm e
      · exact ⟨b', hb', e1, e2⟩
theorem Kys.del {es : List (Int × Value × Nat)} {L M : List Nat} {c : Nat → Rn} {f : Rn → Int} {b k : Nat} (h : Kys es L c f) (hk : Kok es k) (hp : (b :: M).Perm L) (hi : ∀ b' ∈ M, f (c b') ≠ f (c b)) : Kys (mdel es (f (c b))) M c f := by
  intro x u
  rw [mget_del hk.1]
  split
  · rename_i e
    constructor
    · intro e2; cases e2
    · rintro ⟨b', hb', e1, e2⟩
      exact absurd (e1.trans e) (hi b' hb')
  · rename_i e
    rw [h x u]
    constructor
    · rintro ⟨b', hb', e1, e2⟩
      rcases List.mem_cons.1 (hp.mem_iff.2 hb') with rfl | hb'
      · exact absurd e1.symm e
      · exact ⟨b', hb', e1, e2⟩
    · rintro ⟨b', hb', e1, e2⟩; exact ⟨b', hp.mem_iff.1 (by simp [hb']), e1, e2⟩
set_option maxRecDepth 100000 in
set_option maxHeartbeats 4000000 in
theorem empty_any (c : Nat → Rn) (w : World) : Calls Try.prog 31 #[] w fun e w' => ∃ Q B mb me, e = .returned (ptr Q) ∧ Lc c w' Q B mb me (.slice none 0 0) [] ∧ Below w.heap.size w w' ∧ (∀ k, Fp Q B mb me (.slice none 0 0) [] k → w.heap.size ≤ k) := by
  have HN := hid (newLine_any c w)
  have hmm := @run_makeMap Try.prog
  unfold ptr at *
  go_enter Try.func31, Try.ntmps31
  go_wp2_with (first | (go_at_call 53; refine HN.out.mono ?_; rintro e w1 ⟨rfl, l1, b1, z1⟩; have L1 := hid l1; have B1 := hid b1; have Z1 := hid z1; clear l1 b1 z1))
  go_ret
  have z1 := Z1.out
  have ka : Kp (fun _ => False) w1 (w1.alloc (.map #[] 0)) := (Kp.refl _ _).alloc _
  have kb : Kp (fun _ => False) (w1.alloc (.map #[] 0)) ((w1.alloc (.map #[] 0)).alloc (.map #[] 0)) := (Kp.refl _ _).alloc _
  have kc : Kp (fun _ => False) ((w1.alloc (.map #[] 0)).alloc (.map #[] 0)) (((w1.alloc (.map #[] 0)).alloc (.map #[] 0)).alloc (.cells #[.pointer (some ⟨w.heap.size, 0, none⟩), .map (some w1.heap.size), .map (some (w1.heap.size + 1)), .int .i64 0] 73)) := (Kp.refl _ _).alloc _
  have m1 := ((Mp.new mki w1).kp kb (fun h => h)).kp kc (fun h => h)
  have m2 := (Mp.new mki (w1.alloc (.map #[] 0))).kp kc (fun h => h)
  have s1 := St.new 73 ((w1.alloc (.map #[] 0)).alloc (.map #[] 0)) #[.pointer (some ⟨w.heap.size, 0, none⟩), .map (some w1.heap.size), .map (some (w1.heap.size + 1)), .int .i64 0]
  rw [World.size_alloc] at m2
  rw [World.size_alloc, World.size_alloc] at s1
  have hk : ∀ f : Rn → Int, Kys [] [] c f := fun f x u => ⟨fun h => (by cases h), fun ⟨b, hb, _⟩ => (by simp at hb)⟩
  have kall := (ka.trans kb (fun _ _ h => h)).trans kc (fun _ _ h => h)
  refine ⟨_, w.heap.size, w1.heap.size, w1.heap.size + 1, rfl, ⟨s1, L1.out.kp0 kall, fun k h0 hn => by simp at hn, ⟨[], 0, m1, hk _⟩, ⟨[], 0, m2, hk _⟩, by omega, Ap.nil, by simp⟩, B1.out.trans (kall.below B1.out.size (fun _ h => h.elim)), ?_⟩
  rintro k (rfl | rfl | rfl | rfl | h | h)
  · omega
  · omega
  · omega
  · omega
  · simp [Value.ownBlock] at h
  · simp at h
end Go.Proofs.Ytgfondgejimkkaa
