/- For the walk of BitsTake: readers that were put aside are kept while the pair goes on, and while one of them is asked; the reference's reader, boxed anew. -/
import Derived.Test.YtfeokjbmobmabaaAskC
import Derived.Test.YtfeokjbmobmabaaNothing
import Derived.Test.YtfeokjbmobmabaaPack
namespace Go.Proofs.Ytfeokjbmobmabaa
open Go.RowKit

/-- A reader is kept while blocks turn that open with a slice (a struct of a reader's), and are not its own. -/
theorem rd_keeps {F : Nat → Prop} {w w' : World} {g G cap : Nat} {B : List Int} {p : Nat} (h : Rd w g (some ⟨G, 0, none⟩) cap B p) (k : Kp F w w') (hg : ¬ F g) (hF : ∀ b, F b → ∃ x y z, w.cell? ⟨b, 0, none⟩ = some (.slice x y z)) : Rd w' g (some ⟨G, 0, none⟩) cap B p := by
  by_cases hB : B.length = 0
  · obtain ⟨n, q, hx⟩ := h
    exact ⟨n, q, hx.pos, hx.nle, hx.wle, hx.blen, hx.byt, hx.st.kp k hg, fun hp => absurd hp (by omega), hx.hcap, hx.hnil, hx.apart⟩
  · refine h.kp k hg (fun b off e hb => ?_)
    cases e
    obtain ⟨n, q, hx⟩ := h
    have c := hx.src.at 0 (by omega)
    obtain ⟨x, y, z, c'⟩ := hF G hb
    rw [Nat.zero_add, c'] at c
    simp at c
theorem rd_cell {w : World} {g : Nat} {ao : Option Addr} {cap : Nat} {B : List Int} {p : Nat} (h : Rd w g ao cap B p) : ∃ x y z, w.cell? ⟨g, 0, none⟩ = some (.slice x y z) := by
  obtain ⟨_, _, hx⟩ := h
  exact ⟨_, _, _, hx.st.cell 0⟩
theorem rf_cell {w : World} {gr bL cap V T p : Nat} (h : Rf w gr bL cap V T p) : ∃ x y z, w.cell? ⟨gr, 0, none⟩ = some (.slice x y z) := ⟨_, _, _, h.st.cell 0⟩

/-- Readers that were put aside: where each lies, and at which bit it stands. -/
def Olds (w : World) (B : List Int) (l : List (Nat × Nat × Nat × Nat)) : Prop := ∀ q ∈ l, Rd w q.1 (some ⟨q.2.1, 0, none⟩) q.2.2.1 B q.2.2.2
theorem Olds.ok {w w' : World} {B : List Int} {l : List (Nat × Nat × Nat × Nat)} (h : Olds w B l) (k : Ok' w w') : Olds w' B l := fun q hq => (h q hq).ok k
theorem Olds.asked {w w' : World} {B : List Int} {l : List (Nat × Nat × Nat × Nat)} {g G cap gr bL capL p : Nat} (h : Olds w B l) (hp : Pr w g G cap gr bL capL B p) (k : Kp (fun i => i = g ∨ i = gr) w w') (hne : ∀ q ∈ l, q.1 ≠ g) : Olds w' B l := by
  intro q hq
  refine rd_keeps (h q hq) k ?_ ?_
  · rintro (e | e)
    · exact hne q hq e
    · have h1 := (h q hq).ty
      have h2 : Ty w gr 51 := ⟨_, _, hp.rf.st⟩
      rw [e] at h1
      have : (80 : TypeId) = 51 := Ty.ne h1 h2
      exact absurd this (by decide)
  · rintro b (rfl | rfl)
    · exact rd_cell hp.rd
    · exact rf_cell hp.rf
theorem Olds.one {w w' : World} {B : List Int} {l : List (Nat × Nat × Nat × Nat)} (h : Olds w B l) (q : Nat × Nat × Nat × Nat) (hq : Rd w q.1 (some ⟨q.2.1, 0, none⟩) q.2.2.1 B q.2.2.2) (k : Kp (fun i => i = q.1) w w') (hne : ∀ r ∈ l, r.1 ≠ q.1) : Olds w' B l := by
  intro r hr
  refine rd_keeps (h r hr) k (hne r hr) ?_
  rintro b rfl
  exact rd_cell hq
theorem Olds.snoc {w : World} {B : List Int} {l : List (Nat × Nat × Nat × Nat)} (h : Olds w B l) (g G cap p : Nat) (hr : Rd w g (some ⟨G, 0, none⟩) cap B p) : Olds w B (l ++ [(g, G, cap, p)]) := by
  intro q hq
  rcases List.mem_append.1 hq with hq | hq
  · exact h q hq
  · obtain rfl : q = (g, G, cap, p) := by simpa using hq
    exact hr
/-- The reference's reader, boxed anew over a row of bits that lies there. -/
theorem rf_box (w : World) (bL cap V T p : Nat) (hsrc : Src w (some ⟨bL, 0, none⟩) (dig 2 V T)) (hb : bL < w.heap.size) (hc : T ≤ cap) (hp : p ≤ T) (hT : T ≤ 1000000) (hV : V < 2 ^ T) :
    Rf (w.alloc (.cells #[.slice (some ⟨bL, 0, none⟩) T cap, .int .i64 (p : Int)] 51)) w.heap.size bL cap V T p := by
  refine ⟨heap_alloc_new w _, hsrc.kp ((Kp.refl (fun _ => False) w).alloc _) (fun _ _ _ x => x), hc, hp, hT, hV, by omega⟩
/-- A pair, made: a reader of the bytes and the reference's, at the bit 0. -/
theorem pr_new {w : World} {g G cap bL capL : Nat} {B : List Int} (hr : Rd w g (some ⟨G, 0, none⟩) cap B 0) (hsrc : Src w (some ⟨bL, 0, none⟩) (dig 2 (und 256 B) (8 * B.length))) (hG : G < w.heap.size) (hb : bL < w.heap.size) (hne : bL ≠ g) (hc : 8 * B.length ≤ capL) (hl : B.length ≤ 3000) :
    Pr (w.alloc (.cells #[.slice (some ⟨bL, 0, none⟩) (8 * B.length) capL, .int .i64 (0 : Nat)] 51)) g G cap w.heap.size bL capL B 0 := by
  have hV : und 256 B < 2 ^ (8 * B.length) := by rw [← pow_256]; exact und_lt 256 B (byt_range hr.byt')
  refine ⟨hr.ok ((Kp.refl (fun _ => False) w).alloc _), rf_box w bL capL _ _ 0 hsrc hb hc (Nat.zero_le _) (by omega) hV, ?_, by omega, hne⟩
  have := rd_lt hr
  omega

theorem own_empty (w : World) : OwnI (w.alloc (.cells #[] 5)) w.heap.size (.slice (some ⟨w.heap.size, 0, none⟩) 0 0) [] :=
  .inr ⟨w.heap.size, 0, [], rfl, Nat.le_refl _, Rw.new 5 w [], rfl, by decide⟩
theorem own_form2 {w : World} {base : Nat} {v : Value} {zs : List Int} {z : Int} (h : OwnI w base v ([] ++ zs ++ [z])) :
    ∃ G c tl, v = .slice (some ⟨G, 0, none⟩) (zs.length + 1) c ∧ base ≤ G ∧ Rw 5 w G (zs ++ (z :: tl)) ∧ zs.length + 1 ≤ c ∧ c ≤ maxLen := by
  rcases h with ⟨_, h2⟩ | ⟨g, cap, tl, rfl, hb, hr, h3, h4⟩
  · simp at h2
  · exact ⟨g, cap, tl, by simp, hb, by simpa using hr, by simp at h3; omega, h4⟩
set_option maxHeartbeats 400000 in
theorem newr_lt (ao : Option Addr) (c : Nat) (B : List Int) (w : World) (hl : B.length ≤ 100000000) (hb : Byt B) (hsrc : Src w ao B) :
    Calls Try.prog 21 #[.slice ao B.length c] w fun e w' => ∃ g G, e = .returned (.pointer (some ⟨g, 0, none⟩)) ∧ w.heap.size ≤ g ∧ w.heap.size ≤ G ∧ G < w'.heap.size ∧ Rd w' g (some ⟨G, 0, none⟩) B.length B 0 ∧ Ok' w w' := by
  go_enter Try.func21, Try.ntmps21
  go_wp2_with (go_at_call 36; refine (kept_any ao c B _ (by omega) hsrc).mono ?_; rintro e w1 ⟨rfl, r1, b1⟩)
  go_ret
  refine ⟨w1.heap.size, w.heap.size, rfl, b1.size, Nat.le_refl _, by have := r1.lt; simp; omega, ⟨0, 0, rfl, Nat.zero_le _, by omega, hl, hb, ?_, (r1.alloc _).src, Nat.le_refl _, fun e => (by cases e), ?_⟩, (Kp.of_below b1).alloc _⟩
  · have s : St 80 (w1.alloc (.cells #[.slice (some ⟨w.heap.size, 0, none⟩) B.length B.length, .int .i64 0, .int .u64 0, .int .i64 0] 80)) w1.heap.size _ := heap_alloc_new w1 _
    simpa [Nat.mod_one] using s
  · intro b off e
    cases e
    have := r1.lt; omega
/-- A script: each of two cells. -/
def Scr (w : World) (ao : Option Addr) (L : Nat) (K N : Nat → Int) : Prop := 0 < L → ∃ b off, ao = some ⟨b, off, none⟩ ∧ ∀ i, i < L → w.cell? ⟨b, off + 2 * i, none⟩ = some (.int .i64 (K i)) ∧ w.cell? ⟨b, off + 2 * i + 1, none⟩ = some (.int .i64 (N i))

end Go.Proofs.Ytfeokjbmobmabaa
