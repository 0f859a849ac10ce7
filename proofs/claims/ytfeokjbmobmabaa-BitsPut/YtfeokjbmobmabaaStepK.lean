/- For BitsPut: a writer beside the reference's list of bits, in memory; what one step may turn. -/
import Derived.Test.YtfeokjbmobmabaaTakeM
namespace Go.Proofs.Ytfeokjbmobmabaa
open Go.RowKit

/-- A writer, and the variable that holds the reference's list of the same bits. -/
structure WL (w : World) (g gl : Nat) (sl u : Value) (N v : Nat) : Prop where
  wr : Wr w g sl N v
  st : St 26 w gl #[u]
  own : OwnI w 0 u (dig 2 v N)
  ap : ∀ b, u.ownBlock = some b → sl.ownBlock ≠ some b
section
variable {w w' w0 w1 wE : World} {g gl : Nat} {sl u : Value} {N v : Nat}
theorem WL.n1 (h : WL w g gl sl u N v) : g ≠ gl := fun e => by
  have h1 := h.wr.ty
  have h2 : Ty w gl 26 := ⟨_, _, h.st⟩
  rw [e] at h1
  exact absurd (Ty.ne h1 h2) (by decide)
theorem WL.n2 (h : WL w g gl sl u N v) : sl.ownBlock ≠ some gl := fun e => by
  have h2 : Ty w gl 26 := ⟨_, _, h.st⟩
  exact absurd (Ty.ne (h.wr.tyb e) h2) (by decide)
theorem WL.n3 (h : WL w g gl sl u N v) : u.ownBlock ≠ some gl := fun e => by
  have h2 : Ty w gl 26 := ⟨_, _, h.st⟩
  exact absurd (Ty.ne (ownI_ty h.own e) h2) (by decide)
theorem WL.n4 (h : WL w g gl sl u N v) : u.ownBlock ≠ some g := fun e => by
  exact absurd (Ty.ne (ownI_ty h.own e) h.wr.ty) (by decide)
theorem WL.ok (h : WL w g gl sl u N v) (k : Ok' w w') : WL w' g gl sl u N v := ⟨h.wr.ok k, h.st.kp k (fun x => x), h.own.kp k (fun _ _ x => x), h.ap⟩
theorem WL.slt (h : WL w g gl sl u N v) : ∀ b, sl.ownBlock = some b → b < w.heap.size := fun b e => (h.wr.2.2.1.lt b e).2
/-- What a step leaves. -/
def Stp (w w' : World) (g gl : Nat) (sl u : Value) (M : Nat) : Prop :=
  ∃ sl' u' N' v', WL w' g gl sl' u' N' v' ∧ N' ≤ M ∧ Kp (fun i => i = g ∨ i = gl ∨ sl.ownBlock = some i) w w' ∧ (∀ b, sl'.ownBlock = some b → sl.ownBlock = some b ∨ w.heap.size ≤ b) ∧ (∀ b, u'.ownBlock = some b → u.ownBlock = some b ∨ w.heap.size ≤ b)
theorem stp_same (h : WL w g gl sl u N v) (k : Ok' w wE) {M : Nat} (hM : N ≤ M) : Stp w wE g gl sl u M :=
  ⟨sl, u, N, v, h.ok k, hM, k.mono (fun _ _ x => x.elim), fun _ e => .inl e, fun _ e => .inl e⟩
theorem Put'.before {N' v' : Nat} (hp : Put' w0 w1 g sl N' v') (k : Ok' w w0) : Put' w w1 g sl N' v' := by
  obtain ⟨sl', hw, k1, fr⟩ := hp
  refine ⟨sl', hw, (k.mono (fun _ _ x => x.elim)).trans k1 (fun _ _ x => x), fun b hb => ?_⟩
  rcases fr b hb with e | e
  · exact .inl e
  · exact .inr (Nat.le_trans k.size e)
/-- The writer's call first, then the reference's list is made anew. -/
theorem stp_done {u' : Value} {N' v' M : Nat} (h : WL w g gl sl u N v) (hp : Put' w w1 g sl N' v') (k : Kp (fun i => i = gl) w1 wE) (st : St 26 wE gl #[u']) (own : OwnI wE w1.heap.size u' (dig 2 v' N')) (hM : N' ≤ M) : Stp w wE g gl sl u M := by
  obtain ⟨sl', hw1, k1, fr⟩ := hp
  have hgl1 : ¬ (gl = g ∨ sl.ownBlock = some gl) := by
    rintro (e | e)
    · exact h.n1 e.symm
    · exact h.n2 e
  have hT : Ty w1 gl 26 := ⟨_, _, h.st.kp k1 hgl1⟩
  have hlt : gl < w1.heap.size := Nat.lt_of_lt_of_le h.st.lt k1.size
  refine ⟨sl', u', N', v', ⟨hw1.kp k h.n1 (fun b hb e => ?_), st, own.mono (Nat.zero_le _), fun b hb e => ?_⟩, hM, ?_, fr, fun b hb => .inr ?_⟩
  · subst e; exact absurd (Ty.ne (hw1.tyb hb) hT) (by decide)
  · have := (own.lt b hb).1
    have := (hw1.2.2.1.lt b e).2
    omega
  · exact (k1.mono (fun i _ x => by rcases x with x | x; exact .inl x; exact .inr (.inr x))).trans k (fun _ _ x => .inr (.inl x))
  · exact Nat.le_trans k1.size (own.lt b hb).1
/-- The reference's list is made anew first, then the writer's call. -/
theorem stp_done2 {u' : Value} {N' v' M : Nat} (h : WL w g gl sl u N v) (k : Kp (fun i => i = gl) w w1) (st : St 26 w1 gl #[u']) (own : OwnI w1 0 u' (dig 2 v' N')) (fr' : ∀ b, u'.ownBlock = some b → u.ownBlock = some b ∨ w.heap.size ≤ b)
    (hp : Put' w1 wE g sl N' v') (hM : N' ≤ M) : Stp w wE g gl sl u M := by
  have hw1 : Wr w1 g sl N v := h.wr.kp k h.n1 (fun b hb e => h.n2 (by rw [hb, e]))
  have hun : ∀ b, u'.ownBlock = some b → sl.ownBlock ≠ some b := by
    intro b hb e
    rcases fr' b hb with x | x
    · exact h.ap b x e
    · have := h.slt b e; omega
  obtain ⟨sl', hwE, kE, fr⟩ := hp
  refine ⟨sl', u', N', v', ⟨hwE, st.kp kE ?_, own.kp kE (fun b hb e => ?_), fun b hb e => ?_⟩, hM, ?_, fun b hb => ?_, fr'⟩
  · rintro (e | e)
    · exact h.n1 e.symm
    · exact h.n2 e
  · rcases e with e | e
    · subst e; exact absurd (Ty.ne (ownI_ty own hb) hw1.ty) (by decide)
    · exact hun b hb e
  · rcases fr b e with x | x
    · exact hun b hb x
    · have := (own.lt b hb).2; omega
  · exact (k.mono (fun i _ x => .inr (.inl x))).trans kE (fun i _ x => by rcases x with x | x; exact .inl x; exact .inr (.inr x))
  · rcases fr b hb with x | x
    · exact .inl x
    · exact .inr (Nat.le_trans k.size x)
/-- A row of one's own is written behind the call. -/
theorem put_row {wm wr wz : World} {Gm N' v' : Nat} (h : WL w g gl sl u N v) (k0 : Ok' w wm) (hp : Put' wm wr g sl N' v') (kz : Kp (fun i => i = Gm) wr wz) (h1 : w.heap.size ≤ Gm) (h2 : Gm < wm.heap.size) : Put' w wz g sl N' v' := by
  obtain ⟨sl', hw, k1, fr⟩ := hp
  have hg := h.wr.2.1.lt
  refine ⟨sl', hw.kp kz (by omega) (fun b hb e => ?_), ((k0.mono (fun _ _ x => x.elim)).trans k1 (fun _ _ x => x)).trans kz (fun i hi e => by omega), fun b hb => ?_⟩
  · rcases fr b hb with x | x
    · have := h.slt b x; omega
    · omega
  · rcases fr b hb with x | x
    · exact .inl x
    · exact .inr (Nat.le_trans k0.size x)
end
/-- Of a list that is made anew out of two: the first, and the second one behind it. -/
theorem kp_append {w1 w3 w4 : World} {v1 : Value} {xs : List Int} (k3 : Ok' w1 w3) (o : OwnI w3 w1.heap.size v1 xs) (hg : w3.grownBy w4 v1.ownBlock) : Ok' w1 w4 :=
  k3.grown hg (fun i hi e => by have := (o.lt i e).1; omega)
theorem kp_store {w1 w4 : World} {gl : Nat} {u : Value} (k : Ok' w1 w4) (h : St 26 w1 gl #[u]) (u' : Value) {H : Nat} {xs : List Int} (own : OwnI w4 H u' xs) (hH : gl < H) :
    Kp (fun i => i = gl) w1 (w4.setCell ⟨gl, 0, none⟩ u') ∧ St 26 (w4.setCell ⟨gl, 0, none⟩ u') gl #[u'] ∧ OwnI (w4.setCell ⟨gl, 0, none⟩ u') H u' xs := by
  have h4 := h.kp k (fun x => x)
  refine ⟨(k.mono (fun _ _ x => x.elim)).setCell gl 0 u' rfl, ?_, own.kp (kp_setCell w4 gl 0 u' (fun i => i = gl) rfl) (fun b hb e => ?_)⟩
  · have := h4.set 0 u'
    simpa using this
  · have := (own.lt b hb).1; omega
end Go.Proofs.Ytfeokjbmobmabaa
