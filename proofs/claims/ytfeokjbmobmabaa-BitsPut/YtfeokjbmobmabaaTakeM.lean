/- For the last loop of BitsTake: the readers that were put aside are asked one by one. -/
import Derived.Test.YtfeokjbmobmabaaTakeL
namespace Go.Proofs.Ytfeokjbmobmabaa
open Go.RowKit

theorem info47 : (Try.prog.info? 47).map (fun i => (i.zero, i.size, i.bytes)) = some (some (.pointer none), 1, 8) := by kernel_rfl
theorem info24 : (Try.prog.info? 24).map (fun i => (i.zero, i.size, i.bytes)) = some (some (.pointer none), 1, 8) := by kernel_rfl
theorem info26 : (Try.prog.info? 26).map (fun i => (i.zero, i.size, i.bytes)) = some (some (.slice none 0 0), 1, 24) := by kernel_rfl
theorem pw_eq {l : List Old} (h : l.Pairwise (fun a b => a.1 ≠ b.1)) {r q : Old} (hr : r ∈ l) (hq : q ∈ l) (e : r.1 = q.1) : r = q := by
  induction l with
  | nil => cases hr
  | cons x l ih =>
    obtain ⟨h1, h2⟩ := List.pairwise_cons.1 h
    rcases List.mem_cons.1 hr with rfl | hr2 <;> rcases List.mem_cons.1 hq with rfl | hq2
    · rfl
    · exact absurd e (h1 q hq2)
    · exact absurd e.symm (h1 r hr2)
    · exact ih h2 hr2 hq2
/-- What is carried from one reader that was put aside to the next. -/
structure L3 (w0 w : World) (gr gL cL : Nat) (B : List Int) (l : List Old) (p : Nat) (ov wv : Value) : Prop where
  rf : Rf w gr gL cL (und 256 B) (8 * B.length) p
  olds : Olds w B l
  pw : l.Pairwise (fun a b => a.1 ≠ b.1)
  old0 : ∀ q ∈ l, w0.heap.size ≤ q.1
  gl : gL < w.heap.size
  k : Ok' w0 w
  ho : w.ownsRow w0.heap.size 47 1 ov l.length (ps l)
  hw : w.ownsRow w0.heap.size 3 1 wv l.length (ats l)
section
variable {w0 w w' : World} {gr gL cL : Nat} {B : List Int} {l : List Old} {g G cap p : Nat} {ov wv : Value}
theorem TS.l3 (h : TS w0 w gr gL cL B l l l g G cap p ov wv) : L3 w0 w gr gL cL B l p ov wv := ⟨h.pr.rf, h.olds, h.pw, h.old0, h.gl, h.k, h.ho, h.hw⟩
theorem L3.ok (h : L3 w0 w gr gL cL B l p ov wv) (k : Ok' w w') : L3 w0 w' gr gL cL B l p ov wv :=
  ⟨h.rf.ok k, h.olds.ok k, h.pw, h.old0, Nat.lt_of_lt_of_le h.gl k.size, h.k.trans k (fun _ _ x => x), ownsRow_kp h.ho k (fun _ x => x.elim), ownsRow_kp h.hw k (fun _ x => x.elim)⟩
theorem L3.peek (h : L3 w0 w gr gL cL B l p ov wv) {q : Old} (hq : q ∈ l) (k : Kp (fun i => i = q.1) w w') (hr : Rd w' q.1 (some ⟨q.2.1, 0, none⟩) q.2.2.1 B q.2.2.2) : L3 w0 w' gr gL cL B l p ov wv := by
  have hq0 := h.olds q hq
  have h1 : Ty w q.1 80 := hq0.ty
  have h2 : Ty w gr 51 := ⟨_, _, h.rf.st⟩
  have hgq : ¬ gr = q.1 := fun e => by rw [e] at h2; exact absurd (Ty.ne h1 h2) (by decide)
  obtain ⟨x, y, z, hc⟩ := rd_cell hq0
  refine ⟨⟨h.rf.st.kp k hgq, ?_, h.rf.hcap, h.rf.hp, h.rf.hT, h.rf.hV, h.rf.apart⟩, fun r hr' => ?_, h.pw, h.old0, Nat.lt_of_lt_of_le h.gl k.size, h.k.trans k (fun i hi e => ?_), ownsRow_kp h.ho k ?_, ownsRow_kp h.hw k ?_⟩
  · by_cases hz : 0 < (dig 2 (und 256 B) (8 * B.length)).length
    · refine h.rf.src.kp k (fun b off e hb => ?_)
      cases e
      have := h.rf.src.at 0 hz
      rw [hb, Nat.zero_add, hc] at this
      simp at this
    · intro hp; omega
  · by_cases e : r.1 = q.1
    · rw [pw_eq h.pw hr' hq e]; exact hr
    · exact rd_keeps (h.olds r hr') k e (fun b hb => by subst hb; exact ⟨x, y, z, hc⟩)
  · have := h.old0 q hq; omega
  · rintro b rfl ht
    exact absurd (Ty.ne h1 ht) (by decide)
  · rintro b rfl ht
    exact absurd (Ty.ne h1 ht) (by decide)
/-- The two rows' cells. -/
theorem L3.cells (h : L3 w0 w gr gL cL B l p ov wv) (j : Nat) (hj : j < l.length) : ∃ bo co bw cw, ov = .slice (some ⟨bo, 0, none⟩) l.length co ∧ wv = .slice (some ⟨bw, 0, none⟩) l.length cw := by
  obtain ⟨h1, h2⟩ := h.ho
  obtain ⟨h3, h4⟩ := h.hw
  rcases h2 with ⟨_, h2⟩ | ⟨bo, co, _, h2, _⟩
  · omega
  · rcases h4 with ⟨_, h4⟩ | ⟨bw, cw, _, h4, _⟩
    · omega
    · exact ⟨bo, co, bw, cw, h2, h4⟩
theorem L3.cell1 {bo co : Nat} (h : L3 w0 w gr gL cL B l p (.slice (some ⟨bo, 0, none⟩) l.length co) wv) (j : Nat) (hj : j < l.length) : w.cell? ⟨bo, j, none⟩ = some (.pointer (some ⟨(l[j]).1, 0, none⟩)) := by
  rw [h.ho.cellAt j (by omega)]
  simp [ps, hj]
theorem L3.cell2 {bw cw : Nat} (h : L3 w0 w gr gL cL B l p ov (.slice (some ⟨bw, 0, none⟩) l.length cw)) (j : Nat) (hj : j < l.length) : w.cell? ⟨bw, j, none⟩ = some (.int .i64 ((l[j]).2.2.2 : Int)) := by
  rw [h.hw.cellAt j (by omega)]
  simp [ats, hj]
theorem L3.len1 (h : L3 w0 w gr gL cL B l p ov wv) : ∃ ao co, ov = .slice ao l.length co := by
  rcases h.ho.2 with ⟨h1, h2⟩ | ⟨bo, co, _, h2, _⟩
  · exact ⟨none, 0, by rw [h1, h2]⟩
  · exact ⟨_, _, h2⟩
end
end Go.Proofs.Ytfeokjbmobmabaa
