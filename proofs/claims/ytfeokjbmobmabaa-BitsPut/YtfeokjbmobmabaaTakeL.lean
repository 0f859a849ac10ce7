/- For the walk of BitsTake: what is carried from call to call: the pair that goes on, the readers that were put aside, and the two rows that tell of them. -/
import Derived.Test.YtfeokjbmobmabaaTakeK
namespace Go.Proofs.Ytfeokjbmobmabaa
open Go.RowKit

abbrev Old : Type := Nat × Nat × Nat × Nat
def ps (l : List Old) : List Value := l.map fun q => .pointer (some ⟨q.1, 0, none⟩)
def ats (l : List Old) : List Value := l.map fun q => .int .i64 (q.2.2.2 : Int)
theorem ps_snoc (l : List Old) (g G cap p : Nat) : ps l ++ [.pointer (some ⟨g, 0, none⟩)] = ps (l ++ [(g, G, cap, p)]) := by simp [ps]
theorem ats_snoc (l : List Old) (g G cap p : Nat) : ats l ++ [.int .i64 (p : Int)] = ats (l ++ [(g, G, cap, p)]) := by simp [ats]
theorem own_cap {w : World} {base g n c : Nat} {xs : List Int} (h : OwnI w base (.slice (some ⟨g, 0, none⟩) n c) xs) : xs.length ≤ c ∧ base ≤ g ∧ g < w.heap.size := by
  rcases h with ⟨h, _⟩ | ⟨g', c', tl, e, hb, hr, h3, _⟩
  · cases h
  · injection e with e1 e2 e3
    injection e1 with e1
    injection e1 with e1
    subst e1 e3
    exact ⟨by rw [← h3]; simp, hb, hr.lt⟩
/-- Blocks whose first cell is a pointer or an int: no reader, and no row of bytes. -/
def Far (F : Nat → Prop) (w : World) : Prop := ∀ b, F b → (∃ a, w.cell? ⟨b, 0, none⟩ = some (.pointer a)) ∨ (∃ z, w.cell? ⟨b, 0, none⟩ = some (.int .i64 z))
theorem Far.slice {F : Nat → Prop} {w : World} (h : Far F w) {b : Nat} (hb : ∃ x y z, w.cell? ⟨b, 0, none⟩ = some (.slice x y z)) : ¬ F b := by
  intro hf
  obtain ⟨x, y, z, e⟩ := hb
  rcases h b hf with ⟨a, e2⟩ | ⟨a, e2⟩ <;> (rw [e] at e2; simp at e2)
theorem Far.byte {F : Nat → Prop} {w : World} (h : Far F w) {b : Nat} {z : Int} (hb : w.cell? ⟨b, 0, none⟩ = some (.int .u8 z)) : ¬ F b := by
  intro hf
  rcases h b hf with ⟨a, e2⟩ | ⟨a, e2⟩ <;> (rw [hb] at e2; simp at e2)
theorem src_far {F : Nat → Prop} {w w' : World} {G : Nat} {zs : List Int} (h : Src w (some ⟨G, 0, none⟩) zs) (k : Kp F w w') (hF : Far F w) : Src w' (some ⟨G, 0, none⟩) zs := by
  by_cases hz : 0 < zs.length
  · refine h.kp k (fun b off e => ?_)
    cases e
    have := h.at 0 hz
    exact hF.byte this
  · intro hp; omega
theorem rd_far {F : Nat → Prop} {w w' : World} {g G cap : Nat} {B : List Int} {p : Nat} (h : Rd w g (some ⟨G, 0, none⟩) cap B p) (k : Kp F w w') (hF : Far F w) : Rd w' g (some ⟨G, 0, none⟩) cap B p := by
  have hg := hF.slice (rd_cell h)
  obtain ⟨n, q, hx⟩ := h
  exact ⟨n, q, hx.pos, hx.nle, hx.wle, hx.blen, hx.byt, hx.st.kp k hg, src_far hx.src k hF, hx.hcap, hx.hnil, hx.apart⟩
theorem rf_far {F : Nat → Prop} {w w' : World} {gr bL cap V T p : Nat} (h : Rf w gr bL cap V T p) (k : Kp F w w') (hF : Far F w) : Rf w' gr bL cap V T p :=
  ⟨h.st.kp k (hF.slice (rf_cell h)), src_far h.src k hF, h.hcap, h.hp, h.hT, h.hV, h.apart⟩
theorem ty_own' {w : World} {base : Nat} {e : TypeId} {v : Value} {n : Nat} {xs : List Value} (h : w.ownsRow base e 1 v n xs) {b : Nat} (hb : v.ownBlock = some b) : Ty w b e := by
  rcases h.2 with ⟨rfl, _⟩ | ⟨g, cap, cur, rfl, _, hgg, _⟩
  · simp [Value.ownBlock] at hb
  · simp [Value.ownBlock] at hb
    subst hb
    exact ⟨_, _, hgg⟩

/-- What is carried. -/
structure TS (w0 w : World) (gr gL cL : Nat) (B : List Int) (l lo lw : List Old) (g G cap p : Nat) (ov wv : Value) : Prop where
  pr : Pr w g G cap gr gL cL B p
  olds : Olds w B l
  pw : l.Pairwise (fun a b => a.1 ≠ b.1)
  ne : ∀ q ∈ l, q.1 ≠ g
  old0 : ∀ q ∈ l, w0.heap.size ≤ q.1
  hg : w0.heap.size ≤ g
  hgr : w0.heap.size ≤ gr
  gl : gL < w.heap.size
  k : Ok' w0 w
  ho : w.ownsRow w0.heap.size 47 1 ov lo.length (ps lo)
  hw : w.ownsRow w0.heap.size 3 1 wv lw.length (ats lw)
  no : ∀ b, ov.ownBlock = some b → 0 < lo.length
  nw : ∀ b, wv.ownBlock = some b → 0 < lw.length

theorem far_ps {w : World} {base : Nat} {v : Value} {l : List Old} (h : w.ownsRow base 47 1 v l.length (ps l)) (hn : ∀ b, v.ownBlock = some b → 0 < l.length) : Far (fun i => v.ownBlock = some i) w := by
  intro b hb
  have hl := hn b hb
  match l, hl with
  | q :: l, _ =>
    exact .inl ⟨_, h.cells hb 0 _ (by simp [ps]; rfl)⟩
theorem far_ats {w : World} {base : Nat} {v : Value} {l : List Old} (h : w.ownsRow base 3 1 v l.length (ats l)) (hn : ∀ b, v.ownBlock = some b → 0 < l.length) : Far (fun i => v.ownBlock = some i) w := by
  intro b hb
  have hl := hn b hb
  match l, hl with
  | q :: l, _ =>
    exact .inr ⟨_, h.cells hb 0 _ (by simp [ats]; rfl)⟩

section
variable {w0 w w' : World} {gr gL cL : Nat} {B : List Int} {l lo lw : List Old} {g G cap p : Nat} {ov wv : Value}
theorem TS.ok (h : TS w0 w gr gL cL B l lo lw g G cap p ov wv) (k : Ok' w w') : TS w0 w' gr gL cL B l lo lw g G cap p ov wv :=
  ⟨h.pr.ok k, h.olds.ok k, h.pw, h.ne, h.old0, h.hg, h.hgr, Nat.lt_of_lt_of_le h.gl k.size, h.k.trans k (fun _ _ x => x), ownsRow_kp h.ho k (fun _ x => x.elim), ownsRow_kp h.hw k (fun _ x => x.elim), h.no, h.nw⟩
theorem TS.asked (h : TS w0 w gr gL cL B l lo lw g G cap p ov wv) (k : Kp (fun i => i = g ∨ i = gr) w w') {p' : Nat} (hp : Pr w' g G cap gr gL cL B p') : TS w0 w' gr gL cL B l lo lw g G cap p' ov wv := by
  have h1 : Ty w g 80 := h.pr.rd.ty
  have h2 : Ty w gr 51 := ⟨_, _, h.pr.rf.st⟩
  refine ⟨hp, h.olds.asked h.pr k h.ne, h.pw, h.ne, h.old0, h.hg, h.hgr, Nat.lt_of_lt_of_le h.gl k.size, h.k.trans k (fun i hi e => ?_), ownsRow_kp h.ho k ?_, ownsRow_kp h.hw k ?_, h.no, h.nw⟩
  · have := h.hg; have := h.hgr; omega
  · rintro b (rfl | rfl) ht
    · exact absurd (Ty.ne h1 ht) (by decide)
    · exact absurd (Ty.ne h2 ht) (by decide)
  · rintro b (rfl | rfl) ht
    · exact absurd (Ty.ne h1 ht) (by decide)
    · exact absurd (Ty.ne h2 ht) (by decide)
theorem TS.push1 (h : TS w0 w gr gL cL B l lo lw g G cap p ov wv) {u ov' : Value} (hgr : (w.alloc (.cells #[u] 47)).grownBy w' ov.ownBlock) (q : Old) (ho : w'.ownsRow w0.heap.size 47 1 ov' (lo.length + 1) (ps (lo ++ [q]))) : TS w0 w' gr gL cL B l (lo ++ [q]) lw g G cap p ov' wv := by
  have K : Kp (fun i => ov.ownBlock = some i) w w' := ((Kp.refl _ w).alloc _).grown hgr (fun _ _ x => x)
  have hF := far_ps h.ho h.no
  refine ⟨⟨rd_far h.pr.rd K hF, rf_far h.pr.rf K hF, h.pr.n1, h.pr.n2, h.pr.n3⟩, fun r hr => rd_far (h.olds r hr) K hF, h.pw, h.ne, h.old0, h.hg, h.hgr, Nat.lt_of_lt_of_le h.gl K.size, h.k.trans K (fun i hi e => ?_), by simpa using ho, ownsRow_kp h.hw K (fun b hb ht => ?_), fun _ _ => by simp, h.nw⟩
  · have := (World.ownsRow.lt h.ho i e).1; omega
  · exact absurd (Ty.ne ht (ty_own' h.ho hb)) (by decide)
theorem TS.push2 (h : TS w0 w gr gL cL B l lo lw g G cap p ov wv) {u wv' : Value} (hgr : (w.alloc (.cells #[u] 3)).grownBy w' wv.ownBlock) (q : Old) (hw : w'.ownsRow w0.heap.size 3 1 wv' (lw.length + 1) (ats (lw ++ [q]))) : TS w0 w' gr gL cL B l lo (lw ++ [q]) g G cap p ov wv' := by
  have K : Kp (fun i => wv.ownBlock = some i) w w' := ((Kp.refl _ w).alloc _).grown hgr (fun _ _ x => x)
  have hF := far_ats h.hw h.nw
  refine ⟨⟨rd_far h.pr.rd K hF, rf_far h.pr.rf K hF, h.pr.n1, h.pr.n2, h.pr.n3⟩, fun r hr => rd_far (h.olds r hr) K hF, h.pw, h.ne, h.old0, h.hg, h.hgr, Nat.lt_of_lt_of_le h.gl K.size, h.k.trans K (fun i hi e => ?_), ownsRow_kp h.ho K (fun b hb ht => ?_), by simpa using hw, h.no, fun _ _ => by simp⟩
  · have := (World.ownsRow.lt h.hw i e).1; omega
  · exact absurd (Ty.ne ht (ty_own' h.hw hb)) (by decide)
theorem TS.copy (h : TS w0 w gr gL cL B l (l ++ [(g, G, cap, p)]) (l ++ [(g, G, cap, p)]) g G cap p ov wv) (k : Ok' w w') {g' G' : Nat} (hg' : w.heap.size ≤ g') (hG' : w.heap.size ≤ G') (hr : Rd w' g' (some ⟨G', 0, none⟩) B.length B p) :
    TS w0 w' gr gL cL B (l ++ [(g, G, cap, p)]) (l ++ [(g, G, cap, p)]) (l ++ [(g, G, cap, p)]) g' G' B.length p ov wv := by
  have h1 := h.ok k
  have hlt := rd_lt h.pr.rd
  have hgr := h.pr.rf.st.lt
  have hgl := h.gl
  refine ⟨⟨hr, h1.pr.rf, by omega, by omega, by omega⟩, h1.olds.snoc g G cap p h1.pr.rd, ?_, ?_, ?_, Nat.le_trans h.k.size hg', h.hgr, h1.gl, h1.k, h1.ho, h1.hw, h1.no, h1.nw⟩
  · refine List.pairwise_append.2 ⟨h.pw, List.pairwise_singleton _ _, fun a ha b hb => ?_⟩
    obtain rfl : b = (g, G, cap, p) := by simpa using hb
    exact h.ne a ha
  · intro q hq
    rcases List.mem_append.1 hq with hq | hq
    · have := rd_lt (h.olds q hq); omega
    · obtain rfl : q = (g, G, cap, p) := by simpa using hq
      show g ≠ g'
      omega
  · intro q hq
    rcases List.mem_append.1 hq with hq | hq
    · exact h.old0 q hq
    · obtain rfl : q = (g, G, cap, p) := by simpa using hq
      exact h.hg
end
theorem gr_cell {w : World} {g G cap gr bL capL : Nat} {B : List Int} {p T : Nat} (h : Pr w g G cap gr bL capL B p) (hT : T = 8 * B.length) : w.cell? ⟨gr, 0, none⟩ = some (.slice (some ⟨bL, 0, none⟩) T capL) := by
  subst hT
  exact h.rf.st.cell 0
theorem left_num {w : World} {g G cap gr bL capL : Nat} {B : List Int} {p T : Nat} (h : Pr w g G cap gr bL capL B p) (hT : T = 8 * B.length) : ∃ q : Nat, (T : Int) - (p : Int) = (q : Int) ∧ IntKind.i64.wrap (q : Int) = (q : Int) ∧ 8 * B.length - p = q := by
  have h1 := h.rd.le
  have h2 := h.rf.hT
  exact ⟨8 * B.length - p, by omega, wrap_nat _ (by omega), rfl⟩
theorem scr_keep {w wa wb : World} {b o g gr : Nat} {x y : Value} (k : Kp (fun i => i = g ∨ i = gr) wa wb) (hb : b < w.heap.size) (hg : w.heap.size ≤ g) (hgr : w.heap.size ≤ gr) (h : wa.cell? ⟨b, o, none⟩ = some x ∧ wa.cell? ⟨b, o + 1, none⟩ = some y) : wb.cell? ⟨b, o, none⟩ = some x ∧ wb.cell? ⟨b, o + 1, none⟩ = some y := by
  have e := k.block b (block_lt_of_cell h.1) (by omega)
  refine ⟨?_, ?_⟩
  · rw [← h.1]; unfold World.cell?; simp only [e]
  · rw [← h.2]; unfold World.cell?; simp only [e]
theorem left_q (g : Nat) (ao : Option Addr) (cap : Nat) (B : List Int) (p q : Nat) (hq : 8 * B.length - p = q) (w : World) (h : Rd w g ao cap B p) :
    Calls Try.prog 26 #[.pointer (some ⟨g, 0, none⟩)] w fun e w' => e = .returned (.int .i64 (q : Int)) ∧ Ok' w w' := by
  subst hq
  exact left_k g ao cap B p w h
theorem cell_ok {w w' : World} {a : Addr} {v : Value} (k : Ok' w w') (h : w.cell? a = some v) : w'.cell? a = w.cell? a := by
  unfold World.cell?
  simp only [k.block a.block (block_lt_of_cell h) (fun x => x)]
end Go.Proofs.Ytfeokjbmobmabaa
