/- A new tree of two comes on a pile of trees by numbers. -/
import Derived.Test.YthpocbpleffdpaaGp
namespace Go.Proofs.Ythpocbpleffdpaa
open Go.RowKit

theorem Tk.congr {c c' : Nat → Nat} {w : World} {b : Nat} (h : Tk c w b) (e : c' b = c b) : Tk c' w b := by
  obtain ⟨co, ma, s, l, r, h1, h2, h3, h4⟩ := h
  exact ⟨co, ma, s, l, r, h1, h2, h3, e.trans h4⟩
theorem Pil.congr {c c' : Nat → Nat} {w : World} {base B : Nat} {v fv : Value} {L : List Nat} (h : Pil c w base B v fv L) (e : ∀ b ∈ L, c' b = c b) : Pil c' w base B v fv L :=
  ⟨h.st, h.own, fun b hb => (h.tr b hb).congr (e b hb), h.ne, h.nb⟩
theorem kf_congr {c c' : Nat → Nat} {L : List Nat} (e : ∀ b ∈ L, c' b = c b) (k : Nat) (hk : k < L.length) : kf c' L k = kf c L k := by
  unfold kf
  exact e _ (by simp [List.getD, hk])

/-- Two trees as one. -/
def jnd (F : List Nd) (a b : Nat) : Nd := ((F.getD a nd0).1 + (F.getD b nd0).1, 0, some (a, b))
theorem joined_gp (w : World) (base Fb B : Nat) (v : Value) (F : List Nd) (bs K L : List Nat) (h : Gp w base Fb B v F bs K L) (a b : Nat) (ha : a < F.length) (hb : b < F.length) (hs : (F.getD a nd0).1 + (F.getD b nd0).1 < 18446744073709551616) (hF : F.length + 1 < 4611686018427387904) :
    Calls Try.prog 77 #[ptr Fb, ptr (bs.getD a 0), ptr (bs.getD b 0)] w fun e w' => e = .returned (ptr w.heap.size) ∧ Gp w' base Fb B v (F ++ [jnd F a b]) (bs ++ [w.heap.size]) K L ∧ Kp (fun k => k = Fb) w w' := by
  refine (joined_any w Fb F.length (bs.getD a 0) (bs.getD b 0) _ _ _ _ _ _ _ _ _ _ h.fo.st (by omega) (h.fo.nd a ha) (h.fo.nd b hb) hs).mono ?_
  rintro e w' ⟨rfl, S1, F1, K1⟩
  have hap := h.apart
  have f1 := h.fo.grow (jnd F a b) hs (fun p e => by simp only [jnd, Option.some.injEq] at e; subst e; exact ⟨ha, hb⟩) hF S1 F1 K1
  have hce : ∀ x ∈ L, Go.Proofs.Ythpocbpleffdpaa.cF (F ++ [jnd F a b]) (bs ++ [w.heap.size]) x = Go.Proofs.Ythpocbpleffdpaa.cF F bs x := fun x hx => by
    obtain ⟨_, _, _, hm⟩ := h.sub hx
    exact cF_more h.fo.len _ _ hm
  have p1 : Pil (cF F bs) w' base B v (fvo (ptr Fb)) L := h.pil.kp K1 (fun e => hap.1.1 e.symm) (fun g e e2 => hap.1.2 (e2 ▸ e)) (fun x hx e => by obtain ⟨_, _, _, hm⟩ := h.sub hx; exact (h.fo.lt hm).2 e)
  refine ⟨rfl, ⟨f1, p1.congr hce, h.hx.congr (fun k hk => kf_congr hce k hk), ?_, fun k hk => by have := h.lt k hk; simp; omega⟩, K1⟩
  have hm : K.map (fun k => (bs ++ [w.heap.size]).getD k 0) = K.map (fun k => bs.getD k 0) := by
    refine List.map_congr_left fun k hk => ?_
    have h1 := h.lt k hk
    have h2 := h.fo.len
    simp [List.getD, List.getElem?_append_left (show k < bs.length by omega)]
  rw [hm]
  exact h.perm

theorem push_gp (w : World) (base Fb B : Nat) (v : Value) (F : List Nd) (bs K L : List Nat) (h : Gp w base Fb B v F bs K L) (k : Nat) (hk : k < F.length) (hbase : base ≤ w.heap.size) (hs : K.length < 17592186044416) :
    Calls Try.prog 76 #[.iface 112 (ptr B), .iface 116 (ptr (bs.getD k 0))] w fun e w' => e = .returned (.tuple #[]) ∧ ∃ v' L', Gp w' base Fb B v' F bs (k :: K) L' ∧ (v'.ownBlock = v.ownBlock ∨ ∃ g, v'.ownBlock = some g ∧ w.heap.size ≤ g) ∧ Kp (fun k => k = B ∨ v.ownBlock = some k) w w' := by
  have hl := h.len
  have hm : bs.getD k 0 ∈ bs := by have := h.fo.len; simp [List.getD, show k < bs.length by omega]
  have hap := h.apart
  refine (hpush_any (cF F bs) w base B v (ptr Fb) L (bs.getD k 0) h.pil h.hx (h.fo.tk hm) (hap.2 _ hm).1 (fun g e e2 => (hap.2 _ hm).2 (e2 ▸ e)) hbase (by omega)).mono ?_
  rintro e w' ⟨rfl, v', L', hp, hP, hX⟩
  refine ⟨rfl, v', L', ⟨h.fo.kp hP.kp (fun e => e.elim hap.1.1 hap.1.2) (fun b hb e => e.elim (hap.2 b hb).1 (hap.2 b hb).2), hP.pil, hX, ?_, fun x hx => ?_⟩, hP.own, hP.kp⟩
  · rw [List.map_cons]
    exact hp.trans (h.perm.cons _)
  · rcases List.mem_cons.1 hx with rfl | hx
    · exact hk
    · exact h.lt x hx
end Go.Proofs.Ythpocbpleffdpaa
