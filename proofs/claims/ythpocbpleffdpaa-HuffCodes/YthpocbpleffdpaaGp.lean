/- Piles of trees as numbers of trees: the least comes off (least), a new one comes on (heap.Push of joined). -/
import Derived.Test.YthpocbpleffdpaaSk
namespace Go.Proofs.Ythpocbpleffdpaa
open Go.RowKit

/-- A tree's key. -/
def ky (F : List Nd) (k : Nat) : Nat := (F.getD k nd0).1 * 9223372036854775808 + k
theorem ky_inj {F : List Nd} {a b : Nat} (ha : a < 9223372036854775808) (hb : b < 9223372036854775808) (e : ky F a = ky F b) : a = b := by
  unfold ky at e
  omega
/-- The least of some trees. -/
def mn (F : List Nd) : List Nat → Nat
  | [] => 0
  | a :: K => K.foldl (fun x y => if ky F y < ky F x then y else x) a
theorem foldl_min (F : List Nd) : ∀ (K : List Nat) (a : Nat), (K.foldl (fun x y => if ky F y < ky F x then y else x) a) ∈ a :: K ∧ ∀ x ∈ a :: K, ky F (K.foldl (fun x y => if ky F y < ky F x then y else x) a) ≤ ky F x := by
  intro K
  induction K with
  | nil => intro a; simp
  | cons b K ih =>
    intro a
    rw [List.foldl_cons]
    obtain ⟨h1, h2⟩ := ih (if ky F b < ky F a then b else a)
    refine ⟨?_, fun x hx => ?_⟩
    · rcases List.mem_cons.1 h1 with h | h
      · rw [h]; split <;> simp
      · exact List.mem_cons_of_mem _ (List.mem_cons_of_mem _ h)
    · have h3 := h2 _ (List.mem_cons_self)
      rcases List.mem_cons.1 hx with rfl | hx
      · refine Nat.le_trans h3 ?_
        split <;> omega
      · rcases List.mem_cons.1 hx with rfl | hx
        · refine Nat.le_trans h3 ?_
          split <;> omega
        · exact h2 x (List.mem_cons_of_mem _ hx)
theorem mn_mem (F : List Nd) {K : List Nat} (h : K ≠ []) : mn F K ∈ K ∧ ∀ x ∈ K, ky F (mn F K) ≤ ky F x := by
  cases K with
  | nil => exact absurd rfl h
  | cons a K => exact foldl_min F K a
theorem mn_eq {F : List Nd} {K : List Nat} {k : Nat} (hk : k ∈ K) (hlt : ∀ x ∈ K, x < 9223372036854775808) (hm : ∀ x ∈ K, ky F k ≤ ky F x) : k = mn F K := by
  obtain ⟨h1, h2⟩ := mn_mem F (K := K) (fun e => by rw [e] at hk; cases hk)
  exact ky_inj (hlt k hk) (hlt _ h1) (Nat.le_antisymm (hm _ h1) (h2 k hk))

/-- A pile of the trees of these numbers. -/
structure Gp (w : World) (base Fb B : Nat) (v : Value) (F : List Nd) (bs K L : List Nat) : Prop where
  fo : Fo w Fb F bs
  pil : Pil (cF F bs) w base B v (fvo (ptr Fb)) L
  hx : Hx (kf (cF F bs) L) 0 L.length
  perm : L.Perm (K.map fun k => bs.getD k 0)
  lt : ∀ k ∈ K, k < F.length
theorem Gp.cF {w : World} {base Fb B : Nat} {v : Value} {F : List Nd} {bs K L : List Nat} (h : Gp w base Fb B v F bs K L) {k : Nat} (hk : k < F.length) : Go.Proofs.Ythpocbpleffdpaa.cF F bs (bs.getD k 0) = ky F k := by
  unfold Go.Proofs.Ythpocbpleffdpaa.cF ky
  rw [h.fo.idx hk]
theorem Gp.len {w : World} {base Fb B : Nat} {v : Value} {F : List Nd} {bs K L : List Nat} (h : Gp w base Fb B v F bs K L) : L.length = K.length := by
  have := h.perm.length_eq
  simpa using this
theorem Gp.apart {w : World} {base Fb B : Nat} {v : Value} {F : List Nd} {bs K L : List Nat} (h : Gp w base Fb B v F bs K L) : (Fb ≠ B ∧ v.ownBlock ≠ some Fb) ∧ ∀ b ∈ bs, b ≠ B ∧ v.ownBlock ≠ some b := by
  have hB := h.pil.st
  have hF := h.fo.st
  have hg : ∀ g, v.ownBlock = some g → ∃ cs, St 116 w g cs := by
    intro g e
    rcases h.pil.own.2 with ⟨rfl, _⟩ | ⟨g', cap, cur, rfl, _, h2, _⟩
    · simp [Value.ownBlock] at e
    · obtain rfl : g' = g := by simpa [Value.ownBlock] using e
      exact ⟨cur, h2⟩
  refine ⟨⟨fun e => by subst e; exact apart_types (by decide) hF hB, fun e => by obtain ⟨cs, hc⟩ := hg _ e; exact apart_types (by decide) hF hc⟩, fun b hb => ?_⟩
  obtain ⟨k, hk, rfl⟩ := h.fo.mem hb
  have hk2 := h.fo.nd k hk
  exact ⟨fun e => apart_types (by decide) (e ▸ hk2) hB, fun e => by obtain ⟨cs, hc⟩ := hg _ e; exact apart_types (by decide) hk2 hc⟩
theorem Gp.sub {w : World} {base Fb B : Nat} {v : Value} {F : List Nd} {bs K L : List Nat} (h : Gp w base Fb B v F bs K L) {b : Nat} (hb : b ∈ L) : ∃ k, k ∈ K ∧ b = bs.getD k 0 ∧ b ∈ bs := by
  have := h.perm.mem_iff.1 hb
  obtain ⟨k, hk, rfl⟩ := List.mem_map.1 this
  exact ⟨k, hk, rfl, by have h1 := h.lt k hk; have h2 := h.fo.len; simp [List.getD, show k < bs.length by omega]⟩

theorem least_gp (w : World) (base Fb B : Nat) (v : Value) (F : List Nd) (bs K L : List Nat) (h : Gp w base Fb B v F bs K L) (hK : K ≠ []) (hs : K.length < 4611686018427387904) :
    Calls Try.prog 74 #[ptr B] w fun e w' => e = .returned (ptr (bs.getD (mn F K) 0)) ∧ ∃ v' L', Gp w' base Fb B v' F bs (K.erase (mn F K)) L' ∧ v'.ownBlock = v.ownBlock ∧ Kp (fun k => k = B ∨ v.ownBlock = some k) w w' := by
  have hl := h.len
  have hpos : 0 < L.length := by
    rw [hl]
    cases K with
    | nil => exact absurd rfl hK
    | cons a K => simp
  refine (least_any _ w base B v (ptr Fb) L h.pil h.hx (by omega) hpos).mono ?_
  rintro e w' ⟨b, rfl, hp⟩
  obtain ⟨k, hk, rfl, _⟩ := h.sub hp.one.1
  have hkm : k = mn F K := by
    refine mn_eq hk (fun x hx => by have h1 := h.lt x hx; have h2 := h.fo.small; omega) (fun x hx => ?_)
    have := hp.one.2 (bs.getD x 0) (h.perm.mem_iff.2 (List.mem_map.2 ⟨x, hx, rfl⟩))
    rw [h.cF (h.lt k hk), h.cF (h.lt x hx)] at this
    exact this
  subst hkm
  obtain ⟨v', M, hM, P1, X1, O1⟩ := hp.rest
  have ha := h.apart
  refine ⟨rfl, v', M, ⟨h.fo.kp hp.kp (fun e => e.elim ha.1.1 ha.1.2) (fun b hb e => e.elim (ha.2 b hb).1 (ha.2 b hb).2), P1, X1, ?_, fun x hx => h.lt x (List.mem_of_mem_erase hx)⟩, O1, hp.kp⟩
  have e1 := (List.perm_cons_erase hk).map (fun k => bs.getD k 0)
  rw [List.map_cons] at e1
  exact ((hM.trans h.perm).trans e1).cons_inv
end Go.Proofs.Ythpocbpleffdpaa
