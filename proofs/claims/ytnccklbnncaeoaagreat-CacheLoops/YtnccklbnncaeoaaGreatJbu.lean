import Derived.Test.YtnccklbnncaeoaaGreatJbt
import Derived.Laws.BitsAllLaws
/- CacheLoops: numbers below eight, a square of marks. -/
namespace Go.Proofs.YtnccklbnncaeoaaGreat
open Go.RowKit
set_option linter.unusedVariables false
set_option linter.unusedSimpArgs false
theorem and7 (z : Int) : ∃ n : Nat, n < 8 ∧ bits .and .i64 z 7 = (n : Int) := by
  have h : bits .and .i64 z 7 = IntKind.i64.wrap ((BitVec.ofInt 64 z &&& BitVec.ofInt 64 7).toNat : Int) := rfl
  have h2 : (BitVec.ofInt 64 z &&& BitVec.ofInt 64 7).toNat ≤ 7 := by
    rw [BitVec.toNat_and]
    exact Nat.and_le_right
  refine ⟨_, Nat.lt_succ_of_le h2, ?_⟩
  rw [h]
  generalize (BitVec.ofInt 64 z &&& BitVec.ofInt 64 7).toNat = m at h2
  simp only [IntKind.wrap, IntKind.bits, IntKind.signed]
  simp
  omega
/-- Sixty-four marks. -/
def sq (M : Nat → Bool) : Array Value := ((List.range 64).map fun i => Value.bool (M i)).toArray
theorem sq_get (M : Nat → Bool) {i : Nat} (h : i < 64) : (sq M)[i]? = some (.bool (M i)) := by
  unfold sq
  simp [h]
theorem sq_set (M : Nat → Bool) {i : Nat} (h : i < 64) : (sq M).set! i (.bool true) = sq (upd M i true) := by
  apply Array.ext_getElem?
  intro j
  by_cases hj : j < 64
  · rw [sq_get _ hj]
    by_cases e : j = i
    · subst e
      simp [upd_same, sq, h]
    · rw [upd_other _ _ e, Array.set!_eq_setIfInBounds, Array.getElem?_setIfInBounds_ne (fun h => e h.symm), sq_get _ hj]
  · have h1 : (sq (upd M i true)).size = 64 := by simp [sq]
    have h2 : ((sq M).set! i (.bool true)).size = 64 := by simp [sq]
    rw [Array.getElem?_eq_none (by omega), Array.getElem?_eq_none (by omega)]
/-- What is marked when the first t places have been looked at. -/
def mid (M C : Nat → Bool) (t i : Nat) : Bool := M i || (decide (i < t) && C i)
theorem mid0 (M C : Nat → Bool) : mid M C 0 = M := by
  funext i
  simp [mid]
theorem mid_yes (M C : Nat → Bool) {t : Nat} (h : C t = true) : upd (mid M C t) t true = mid M C (t + 1) := by
  funext i
  by_cases e : i = t
  · subst e
    rw [upd_same]
    simp [mid, h]
  · rw [upd_other _ _ e]
    unfold mid
    have : (i < t + 1) ↔ (i < t) := by omega
    simp only [this]
theorem mid_no (M C : Nat → Bool) {t : Nat} (h : C t = false) : mid M C t = mid M C (t + 1) := by
  funext i
  by_cases e : i = t
  · subst e
    simp [mid, h]
  · unfold mid
    have : (i < t + 1) ↔ (i < t) := by omega
    simp only [this]
theorem mid_at (M C : Nat → Bool) (t : Nat) {i : Nat} (h : C i = false) : mid M C t i = M i := by
  simp [mid, h]
/-- Who is to be marked when p is to wait for o. -/
def cmk (M : Nat → Bool) (p o i : Nat) : Bool := (decide (i / 8 = p) || M (i / 8 * 8 + p)) && (decide (i % 8 = o) || M (o * 8 + i % 8))
theorem cmk_at (M : Nat → Bool) (p o : Nat) {x y : Nat} (hy : y < 8) : cmk M p o (x * 8 + y) = ((decide (x = p) || M (x * 8 + p)) && (decide (y = o) || M (o * 8 + y))) := by
  unfold cmk
  rw [show (x * 8 + y) / 8 = x by omega, show (x * 8 + y) % 8 = y by omega]
theorem cmk_col {M : Nat → Bool} {p o : Nat} (hp : p < 8) (hpo : p ≠ o) (h : M (o * 8 + p) = false) (x : Nat) : cmk M p o (x * 8 + p) = false := by
  rw [cmk_at _ _ _ hp, h]
  simp [hpo]
theorem cmk_row {M : Nat → Bool} {p o : Nat} (hp : p < 8) (hpo : p ≠ o) (h : M (o * 8 + p) = false) {y : Nat} (hy : y < 8) : cmk M p o (o * 8 + y) = false := by
  rw [cmk_at _ _ _ hy, h]
  have e : ¬ o = p := fun e => hpo e.symm
  simp [e]
/-- The marks tell who waits for whom. -/
def Mks (M : Nat → Bool) (G : Gc) (β : Nat → Nat) : Prop := ∀ p, p < 8 → ∀ q, q < 8 → (M (p * 8 + q) = true ↔ Rch G.W (β p) (β q))
theorem rch_no {W : Nat → List Nat} (h : ∀ x, W x = []) {a b : Nat} : ¬ Rch W a b := by
  intro hr
  induction hr using Rch.ind with
  | one h1 => rw [h] at h1; cases h1
  | step h1 _ _ => rw [h] at h1; cases h1
theorem mk0 {G : Gc} {β : Nat → Nat} (h : ∀ x, G.W x = []) : Mks (fun _ => false) G β := fun p _ q _ => ⟨fun e => Bool.noConfusion e, fun hr => absurd hr (rch_no h)⟩
theorem Ev.inj {p : Nat} {G : Gc} {β : Nat → Nat} (h : Ev p G β) {i j : Nat} (hi : i < p) (hj : j < p) (e : β i = β j) : i = j := by
  rw [← h.n i hi, ← h.n j hj, e]
theorem mk_af {G H : Gc} {β : Nat → Nat} {M : Nat → Bool} (hE : Ev 8 G β) (h : Mks M G β) {p o : Nat} (hp : p < 8) (ho : o < 8) (hW : ∀ x a, a ∈ H.W x ↔ a ∈ G.W x ∨ (x = β p ∧ a = β o)) : Mks (mid M (cmk M p o) 64) H β := by
  intro x hx y hy
  rw [rch_af hW, ← h x hx y hy, ← h x hx p hp, ← h o ho y hy]
  unfold mid
  rw [cmk_at _ _ _ hy]
  have h1 : x * 8 + y < 64 := by omega
  have h2 : β x = β p ↔ x = p := ⟨fun e => hE.inj hx hp e, fun e => by rw [e]⟩
  have h3 : β o = β y ↔ y = o := ⟨fun e => (hE.inj ho hy e).symm, fun e => by rw [e]⟩
  rw [h2, h3]
  simp [h1]
/-- Where the loop over the pairs stands. -/
structure Ll (w0 : World) (g Q X : Nat) (G : Gc) (F : Nat → Prop) (β : Nat → Nat) (M : Nat → Bool) (w : World) : Prop where
  v : Cv nmf g 9 8 Q 2 G ⟨4096, zero, []⟩ [] F w
  e : Ev 8 G β
  m : Mks M G β
  lo : Lo w0 Q G F w
  s : St 82 w X (sq M)
  x : ∀ i, (Fc Q G i ∨ F i) → i ≠ X
  x0 : w0.heap.size ≤ X
theorem Ll.start {w0 w : World} {g Q : Nat} {G : Gc} {F : Nat → Prop} {β : Nat → Nat} (h : Cv nmf g 9 8 Q 2 G ⟨4096, zero, []⟩ [] F w) (hE : Ev 8 G β) (hW : ∀ x, G.W x = []) (hlo : Lo w0 Q G F w) : Ll w0 g Q w.heap.size G F β (fun _ => false) (w.alloc (.cells (sq fun _ => false) 82)) := by
  have ka : Kp (fun _ => False) w (w.alloc (.cells (sq fun _ => false) 82)) := (Kp.refl _ _).alloc _
  refine ⟨h.kp0 ka, hE, mk0 hW, hlo.kp0 ka, St.new 82 w _, fun i hi e => ?_, hlo.kp.size⟩
  rcases hi with hi | hi
  · have := h.cm.lt hi; omega
  · have := h.sw.lt hi; omega
theorem Ll.kp0 {w0 w w' : World} {g Q X : Nat} {G : Gc} {F : Nat → Prop} {β : Nat → Nat} {M : Nat → Bool} (h : Ll w0 g Q X G F β M w) (k : Kp (fun _ => False) w w') : Ll w0 g Q X G F β M w' :=
  ⟨h.v.kp0 k, h.e, h.m, h.lo.kp0 k, h.s.kp k (fun e => e), h.x, h.x0⟩
theorem loops_after {S : ByteArray} {g Q N : Nat} {G : Gc} {β : Nat → Nat} {M : Nat → Bool} {q : Gf} {ft : List (Int × Int)} {F : Nat → Prop} {w : World} {e : Ending} {w' : World} (hv : Cv S g 9 8 Q N G q ft F w) (hE : Ev 8 G β) (hM : Mks M G β) {p o : Nat} (hp : p < 8) (ho : o < 8) (ha : AfR S g 9 8 Q N G q ft F w (p : Int) (o : Int) e w') :
    (e = .returned (.int .i64 240) ∧ (p = o ∨ (p ≠ o ∧ M (o * 8 + p) = true)) ∧ Kp (fun _ => False) w w') ∨
    (e = .returned (.int .i64 0) ∧ p ≠ o ∧ M (o * 8 + p) = false ∧ Cv S g 9 8 Q N (gAf G (β p) (β o)) q ft F w' ∧ Cch Q G (gAf G (β p) (β o)) F F w w' ∧ Mks (mid M (cmk M p o) 64) (gAf G (β p) (β o)) β) := by
  have hmp : mayn 9 (p : Int) = true := mayn_of (by omega)
  have hmo : mayn 9 (o : Int) = true := mayn_of (by omega)
  have hn := hv.cm.ks.nin
  have gp := hE.get hn hp
  have go := hE.get hn ho
  cases ha using AfR.el with
  | arg h1 _ => rw [hmp, hmo] at h1; cases h1
  | same _ _ h1 k => exact .inl ⟨rfl, .inl (by omega), k⟩
  | nil _ _ _ h1 _ =>
    rw [Int.toNat_natCast, go] at h1; cases h1
  | loop _ _ h3 h1 h2 h4 k =>
    rw [Int.toNat_natCast, go] at h1; cases h1
    rw [Int.toNat_natCast, gp] at h2; cases h2
    exact .inl ⟨rfl, .inr ⟨fun e => h3 (by rw [e]), (hM o ho p hp).2 h4⟩, k⟩
  | idle _ _ _ h1 _ h2 _ =>
    rw [Int.toNat_natCast, go] at h1; cases h1
    rw [hE.di o ho] at h2; cases h2
  | ok a1 a2 a3 h1 h2 h3 hs hg hv2 hc =>
    rw [Int.toNat_natCast, go] at h1; cases h1
    rcases hg with ⟨h4, rfl⟩ | ⟨h4, _⟩
    · rw [Int.toNat_natCast, gp] at h4; cases h4
      have hf : M (o * 8 + p) = false := by
        cases e : M (o * 8 + p) with
        | false => rfl
        | true => exact absurd ((hM o ho p hp).1 e) (h2 _ (by rw [Int.toNat_natCast]; exact gp))
      refine .inr ⟨rfl, fun e => a3 (by rw [e]), hf, hv2, hc, mk_af hE hM hp ho (fun x a => ?_)⟩
      show a ∈ upd _ _ _ x ↔ _
      by_cases e : x = β p
      · subst e
        rw [upd_same, nput_mem (fun a ha hna => hn a (hv.iv.wk _ a ha).2 _ (hE.mem ho) hna)]
        simp
      · rw [upd_other _ _ e]
        simp [e]
    · rw [Int.toNat_natCast, gp] at h4; cases h4
/-- One pair: a round, or marks that are not yet set. -/
theorem Ll.after {w0 : World} {g Q X : Nat} {G : Gc} {β : Nat → Nat} {M : Nat → Bool} {F : Nat → Prop} {w : World} {e : Ending} {w' : World} (h : Ll w0 g Q X G F β M w) {p o : Nat} (hp : p < 8) (ho : o < 8) (ha : AfR nmf g 9 8 Q 2 G ⟨4096, zero, []⟩ [] F w (p : Int) (o : Int) e w') :
    (e = .returned (.int .i64 240) ∧ (p = o ∨ (p ≠ o ∧ M (o * 8 + p) = true)) ∧ Ll w0 g Q X G F β M w') ∨
    (e = .returned (.int .i64 0) ∧ p ≠ o ∧ M (o * 8 + p) = false ∧ St 82 w' X (sq M) ∧ ∀ w'', St 82 w'' X (sq (mid M (cmk M p o) 64)) → Kp (fun i => i = X) w' w'' → Ll w0 g Q X (gAf G (β p) (β o)) F β (mid M (cmk M p o) 64) w'') := by
  rcases loops_after h.v h.e h.m hp ho ha with ⟨h1, h2, k⟩ | ⟨h1, h2, h3, hv, hc, hM⟩
  · exact .inl ⟨h1, h2, h.kp0 k⟩
  · have hX := h.s.lt
    have hx : ∀ i, (Fc Q (gAf G (β p) (β o)) i ∨ F i) → i ≠ X := fun i hi e => by
      rcases hi with hi | hi
      · rcases hc.fc i hi with h4 | h4
        · exact h.x i (.inl h4) e
        · omega
      · exact h.x i (.inr hi) e
    have hs := h.s.kp hc.kp (fun hx2 => h.x X hx2 rfl)
    refine .inr ⟨h1, h2, h3, hs, fun w'' s k => ?_⟩
    have hlo := h.lo.ch hc
    exact ⟨hv.kp k (fun i hi e => hx i (.inl hi) e) (fun i hi e => hx i (.inr hi) e), h.e.af _ _, hM, ⟨hlo.fc, hlo.ff, hlo.kp.trans k (fun i hi e => by have := h.x0; omega)⟩, s, hx, h.x0⟩
end Go.Proofs.YtnccklbnncaeoaaGreat
/- CacheLoops: the pages are written back. -/
namespace Go.Proofs.YtnccklbnncaeoaaGreat
open Go.RowKit
set_option linter.unusedVariables false
set_option linter.unusedSimpArgs false
set_option linter.constructorNameAsVariable false
def q4 : Gf := ⟨4096, zero, []⟩
/-- Where the loop that writes back stands. -/
structure Lb (w0 : World) (g Q : Nat) (G : Gc) (β : Nat → Nat) (n j : Nat) (H : Gc) (q : Gf) (F : Nat → Prop) (w : World) : Prop where
  v : Cv nmf g 9 8 Q (2 + j) H q [] F w
  r : Rc 9 j ⟨G, q4, []⟩ ⟨H, q, []⟩
  u : j + mu H ≤ mu G
  d : ∀ i, i < n → (H.c (β i)).di = false
  lo : Lo w0 Q H F w
section
variable {w0 w : World} {g Q n j : Nat} {G H : Gc} {q : Gf} {β : Nat → Nat} {F : Nat → Prop}
theorem Lb.kp0 {w' : World} (h : Lb w0 g Q G β n j H q F w) (k : Kp (fun _ => False) w w') : Lb w0 g Q G β n j H q F w' :=
  ⟨h.v.kp0 k, h.r, h.u, h.d, h.lo.kp0 k⟩
theorem Ev.inL {p : Nat} (h : Ev p G β) {i : Nat} (hi : i < p) : β i ∈ G.L := h.L.mem_iff.2 (h.mem hi)
theorem Lb.get (h : Lb w0 g Q G β n j H q F w) (hE : Ev 8 G β) {i : Nat} (hi : i < 8) : nget H.c H.K i = some (β i) ∧ kget H i = some (β i) := by
  have hs := h.r.stb
  have hL : β i ∈ H.L := (hs.L.mem_iff).2 (hE.inL hi)
  have hK : β i ∈ H.K := h.v.iv.ll _ hL
  have hn : (H.c (β i)).n = i := (hs.c (β i)).1.trans (hE.n i hi)
  have hg := nget_of h.v.cm.ks.nin hK
  rw [hn] at hg
  refine ⟨hg, ?_⟩
  unfold kget
  rw [hg]
  dsimp only
  obtain ⟨k, zs, hy, _⟩ := hE.y i hi
  have hy2 : H.y (β i) = some (k, zs) := by rw [hs.y]; exact hy
  rw [hy2]
  rfl
theorem Lb.hN (h : Lb w0 g Q G β n j H q F w) (hm : mu G ≤ 16) : 2 + j + mu H + 2 ≤ 9000 := by
  have := h.u
  omega
set_option maxRecDepth 100000 in
theorem Lb.back (h : Lb w0 g Q G β n j H q F w) (hE : Ev 8 G β) (hn : n < 8) (hm : mu G ≤ 16) : Calls Tryz.prog 24 #[ptr Q, .int .i64 n] w fun e w' => e = .returned (.int .i64 0) ∧ ∃ j2 H2 q2 F2, Lb w0 g Q G β (n + 1) j2 H2 q2 F2 w' := by
  refine (back_any h.v (n : Int) (h.hN hm)).mono ?_
  intro e w' hb
  unfold BaP at hb
  rw [if_pos (mayn_of (by omega)), Int.toNat_natCast, (h.get hE hn).2] at hb
  obtain ⟨z, j1, G2, q2, ft2, F2, rfl, hv, hc, ho, hmu, hd⟩ := hb
  obtain ⟨rfl, hrc, hf⟩ := ho.ftn rfl
  change ft2 = [] at hf
  subst hf
  have hmu2 : j1 + mu G2 ≤ mu H := by simpa using hmu
  refine ⟨rfl, j + j1, G2, q2, F2, ?_, h.r.trans hrc, by have := h.u; omega, fun i hi => ?_, h.lo.ch hc⟩
  · rw [← Nat.add_assoc]; exact hv
  · by_cases e : i = n
    · subst e
      exact hd rfl (β i) (by simp)
    · have h1 := h.d i (by omega)
      cases e2 : (G2.c (β i)).di with
      | false => rfl
      | true =>
        have := hrc.stb.d (β i) e2
        change (H.c (β i)).di = true at this
        rw [h1] at this; cases this
theorem ev_dn (hE : Ev 8 G β) : dn G = 8 := by
  have h1 : ∀ a ∈ G.L, (G.c a).di = true := fun a ha => by
    obtain ⟨i, hi, rfl⟩ := hE.of (hE.L.mem_iff.1 ha)
    exact hE.di i hi
  unfold dn
  rw [List.countP_eq_length.2 h1]
  exact hE.len
theorem Lb.n3 (h : Lb w0 g Q G β 8 j H q F w) (hE : Ev 8 G β) (hnd : G.L.Nodup) : H.n3 = 8 := by
  have h1 := h.r.dn hnd
  change H.n3 + dn H = G.n3 + dn G at h1
  have h2 : dn H = 0 := by
    unfold dn
    rw [List.countP_eq_zero]
    intro a ha
    obtain ⟨i, hi, rfl⟩ := hE.of (hE.L.mem_iff.1 (h.r.stb.L.mem_iff.1 ha))
    rw [h.d i hi]
    simp
  rw [h2, hE.n3, ev_dn hE] at h1
  omega
theorem q4_cont (i : Nat) : cont q4 i = 0 := rfl
theorem Lb.file (h : Lb w0 g Q G β 8 j H q F w) (hE : Ev 8 G β) (hnin : Nin G.c G.L) (hy : ∀ b ∈ G.L, ∀ i zs, G.y b = some (i, zs) → zs.length = 2 ^ 9) : q.sz = 4096 ∧ ∀ p, p < 8 → cont q (512 * p) = (p : Int) + 1 := by
  have hc : Cl 9 G q4 := fun b hb hd => by
    obtain ⟨i, hi, rfl⟩ := hE.of (hE.L.mem_iff.1 hb)
    rw [hE.di i hi] at hd; cases hd
  have hf := rc_cl h.r rfl hnin hy (fun i _ => q4_cont i) hc
  have h1 : 4096 ≤ q.sz := hf.sz
  have h2 : q.sz ≤ 4096 := hf.szb 4096 (Nat.le_refl _) (fun b hb => by
    obtain ⟨i, hi, rfl⟩ := hE.of (hE.L.mem_iff.1 hb)
    rw [hE.n i hi]
    omega)
  refine ⟨by omega, fun p hp => ?_⟩
  have hs := h.r.stb
  obtain ⟨k, zs, hyp, hz⟩ := hE.y p hp
  have hn : (H.c (β p)).n = p := (hs.c (β p)).1.trans (hE.n p hp)
  have h3 := hf.cl (β p) (hs.L.mem_iff.2 (hE.inL hp)) (h.d p hp) k zs (by show H.y (β p) = _; rw [hs.y]; exact hyp) 0 (by omega)
  change zs.getD 0 0 = cont q ((H.c (β p)).n * 2 ^ 9 + 0) at h3
  rw [hn, hz] at h3
  rw [show 512 * p = p * 2 ^ 9 + 0 by omega]
  exact h3.symm
theorem Lb.state {e : Ending} {w' : World} (h : Lb w0 g Q G β 8 j H q F w) (hE : Ev 8 G β) (hs : StR 9 H w 3 e w') : ∃ pe, e = .returned (.tuple #[.agg #[.bool false, .bool pe, .slice none 0 0], .int .i64 0]) ∧ Lb w0 g Q G β 8 j H q F w' := by
  obtain ⟨k, hs⟩ := hs
  have h3 : (3 : Int).toNat = 3 := rfl
  have hm : mayn 9 3 = true := by decide
  rw [if_pos hm, h3, (h.get hE (i := 3) (by omega)).1] at hs
  obtain ⟨v, rfl, _, hv⟩ := hs
  have hd := h.d 3 (by omega)
  obtain rfl := hv.2 (rc_nil h.r (hE.di 3 (by omega)) hd)
  rw [hd]
  exact ⟨_, rfl, h.kp0 k⟩
end
end Go.Proofs.YtnccklbnncaeoaaGreat
/- CacheLoops: the walk. -/
namespace Go.Proofs.YtnccklbnncaeoaaGreat
open Go.RowKit
set_option linter.unusedVariables false
set_option linter.unusedSimpArgs false
set_option linter.constructorNameAsVariable false
set_option maxRecDepth 100000 in
set_option maxHeartbeats 8000000 in
theorem loops_out (ao : Option Addr) (m cap : Nat) (w : World) (hout : 100 < m) :
    Calls Tryz.prog 7 #[.slice ao m cap] w fun e w' => e = .returned (.bool true) ∧ Kp (fun _ => False) w w' := by
  have HW := hid (works_any w)
  have h4' : (100 : Int) < m := by omega
  go_enter Tryz.func7, Tryz.ntmps7
  go_wp2_with (first | (go_at_call 10; refine HW.out.mono ?_; rintro _ w1 ⟨rfl, k1⟩))
  go_ret
  exact ⟨rfl, k1⟩
set_option maxRecDepth 100000 in
set_option maxHeartbeats 16000000 in
theorem loops_in (ao : Option Addr) (m cap : Nat) (xs : List Int) (w : World) (hm2 : m ≤ 100) (hl : xs.length = m) (hS : Src .i64 w ao xs) :
    Calls Tryz.prog 7 #[.slice ao m cap] w fun e w' => e = .returned (.bool true) ∧ Kp (fun _ => False) w w' := by
  have HF : Hid (Calls Tryz.prog 11 #[.int .i64 4096, .slice none 0 0] w fun e w' => ∃ g F, e = .returned (ptr g) ∧ Sw nmf g 2 F ⟨4096, zero, []⟩ [] w' ∧ (∀ i, F i → w.heap.size ≤ i) ∧ Kp (fun _ => False) w w') := file_nil 4096 (by omega) w
  have HNU := hid num_any
  have c4 : ¬ (100 : Int) < m := by omega
  have HS := hid hS
  have HL := hid hl
  clear hS hl
  go_enter Tryz.func7, Tryz.ntmps7
  go_wp2_with fail
  refine HF.out.mono ?_
  rintro _ w1 ⟨g, F, rfl, hs, hF0, kF0⟩
  have hlo := Lo.new (S := nmf) (g := g) (bits := 9) (room := 8) hF0 kF0
  have hv2 := cache_cv (bits := 9) (room := 8) hs ⟨by omega, by omega⟩ (by omega)
  have HNEW : Hid (Calls Tryz.prog 15 #[ptr g, .string nmf, .int .i64 (9 : Nat), .int .i64 (8 : Nat)] w1 fun e w' => e = .returned (.tuple #[ptr (w1.heap.size + 2), .int .i64 0]) ∧ w' = wCache w1 nmf g 9 8) := new_good (bits := 9) (room := 8) hs ⟨by omega, by omega⟩ (by omega)
  obtain ⟨Q, hQ⟩ : ∃ Q, w1.heap.size + 2 = Q := ⟨_, rfl⟩
  obtain ⟨m0, hm0⟩ : ∃ m, w1.heap.size = m := ⟨_, rfl⟩
  rw [hQ, hm0] at hv2 hlo
  rw [hQ] at HNEW
  have HV2 := hid hv2
  have HLO := hid hlo
  clear hs hv2 HF hm0 hF0 kF0 hlo
  unfold ptr at *
  go_wp2_with fail
  refine HNEW.out.mono ?_
  rintro _ w2 ⟨rfl, hw2⟩
  rw [← hw2] at HV2 HLO
  clear hw2 HNEW
  go_wp2_with (first
    | (go_at_call 17; refine (HNU.out _ _).mono ?_; rintro e w' ⟨rfl, h⟩; replace h := h.symm; subst h))
  go_loopw [6] (fun vi wr => ∃ n : Nat, vi = .int .i64 n ∧ n ≤ 8 ∧ ∃ G F β, Cv nmf g 9 8 Q 2 G ⟨4096, zero, []⟩ [] F wr ∧ Ev n G β ∧ (∀ x, G.W x = []) ∧ Lo w Q G F wr) (fun vi _ => 8 - (intOf vi).toNat)
  case atStart => exact ⟨0, rfl, Nat.zero_le _, _, _, fun _ => 0, HV2.out, ev0 _ _, fun x => rfl, HLO.out⟩
  case round =>
    obtain ⟨n, rfl, hn, G, F, β, hv, hev, hW, hlo⟩ := hrel
    clear HV2 HLO
    by_cases hlt : n < 8
    · have hlt' : (n : Int) < 8 := by omega
      have hmu := mu_len G
      rw [hev.len] at hmu
      have HW1 := hid (cw1 hv n ((n : Int) + 1) (by omega) (by rw [hev.t]; omega) (by omega) hev.none (by rw [hev.len]; omega))
      have HV := hid hv
      have HE := hid hev
      have HWn := hid hW
      have HLO := hid hlo
      clear hv hev hW hlo
      unfold ptr at *
      go_wp2_with fail
      refine HW1.out.mono ?_
      rintro _ w3 ⟨rfl, G1, F1, b, hv3, hc3, hw3⟩
      have hev1 := ev_next HE.out HV.out.iv.kb hw3
      have hW1 : ∀ x, G1.W x = [] := fun x => by rw [hw3.W]; exact HWn.out x
      have hlo1 := HLO.out.ch hc3
      have HFIN : Hid (∃ G F β, Cv nmf g 9 8 Q 2 G ⟨4096, zero, []⟩ [] F w3 ∧ Ev (n + 1) G β ∧ (∀ x, G.W x = []) ∧ Lo w Q G F w3) := ⟨_, _, _, hv3, hev1, hW1, hlo1⟩
      clear hv3 hc3 hw3 hev1 hW1 hlo1 HW1 HV HE HWn HLO
      go_wp2_with (first
        | (go_at_call 17; refine (HNU.out _ _).mono ?_; rintro e w' ⟨rfl, h⟩; replace h := h.symm; subst h))
      refine ⟨⟨n + 1, by simp, by omega, HFIN.out⟩, ?_⟩
      simp only [intOf]
      omega
    · obtain rfl : n = 8 := by omega
      have HST : Hid (∃ G F β, Cv nmf g 9 8 Q 2 G ⟨4096, zero, []⟩ [] F wr ∧ Ev 8 G β ∧ (∀ x, G.W x = []) ∧ Lo w Q G F wr) := ⟨_, _, _, hv, hev, hW, hlo⟩
      clear hv hev hW hlo hlt
      obtain ⟨G, F, β, hv, hev, hW, hlo⟩ := HST.out
      have HLL := hid (Ll.start hv hev hW hlo)
      clear hv hev hW hlo HST
      go_wp2_with fail
      change Code.wp _ _ _ _ (wr.alloc (.cells (sq fun _ => false) 82))
      obtain ⟨w4, hw4⟩ : ∃ w4, wr.alloc (.cells (sq fun _ => false) 82) = w4 := ⟨_, rfl⟩
      obtain ⟨X, hX⟩ : ∃ X, wr.heap.size = X := ⟨_, rfl⟩
      rw [hw4, hX] at HLL
      rw [hw4, hX]
      have HL0 : Hid (∃ G F β M, Ll w g Q X G F β M w4) := ⟨_, _, _, _, HLL.out⟩
      clear HLL hw4 hX
      go_loopw [8] (fun vi wr => ∃ n : Nat, vi = .int .i64 n ∧ n ≤ m ∧ ∃ G F β M, Ll w g Q X G F β M wr) (fun vi _ => m - (intOf vi).toNat)
      case atStart => exact ⟨0, rfl, Nat.zero_le _, HL0.out⟩
      case round =>
        obtain ⟨n, rfl, hn, HL1⟩ := hrel
        replace HL1 := hid HL1
        clear HL0
        by_cases hlt : n < m
        · have hlt' : (n : Int) < (m : Int) := by omega
          obtain ⟨G, F, β, M, hll⟩ := HL1.out
          have hsr := HS.out.kp hll.lo.kp (fun _ _ _ h => h)
          obtain ⟨ab, aof, rfl, hcell⟩ : ∃ b o, ao = some ⟨b, o, none⟩ ∧ ∀ t, t < m → wr.cell? ⟨b, o + t, none⟩ = some (.int .i64 (xs.getD t 0)) := by
            obtain ⟨b, o, e, hc⟩ := hsr (by rw [HL.out]; omega)
            exact ⟨b, o, e, fun t ht => hc t (by rw [HL.out]; exact ht)⟩
          have yc := hcell n hlt
          generalize xs.getD n 0 = z at yc
          obtain ⟨p, hp, hz⟩ := and7 z
          obtain ⟨o, ho, hz2⟩ := and7 (z / 8)
          have HLL := hid hll
          clear hll hsr hcell HL1
          go_wp2_with fail
          go_quiet (fail)
          replace HLL := hid (HLL.out.kp0 (drewN_kp _ wr nq))
          obtain ⟨w5, hw5⟩ : ∃ w5, wr.drewN nq = w5 := ⟨_, rfl⟩
          rw [hw5] at HLL
          rw [hw5]
          clear hw5 yc hz hz2
          have HAF := hid (after_any HLL.out.v (p : Int) (o : Int))
          unfold ptr at *
          go_wp2_with fail
          refine HAF.out.mono ?_
          intro e w6 ha
          have ha2 := hid (HLL.out.after hp ho ha)
          clear ha HAF HLL
          rcases ha2.out with ⟨rfl, hor, hll⟩ | ⟨rfl, hpo, hf, hs, hfin⟩
          · have HLL : Hid (∃ G F β M, Ll w g Q X G F β M w6) := ⟨_, _, _, _, hll⟩
            rcases hor with rfl | ⟨hpo, hM⟩
            · clear hll ha2
              go_wp2_with (first
                | (go_at_call 17; refine (HNU.out _ _).mono ?_; rintro e w' ⟨rfl, h⟩; replace h := h.symm; subst h))
              refine ⟨⟨n + 1, by simp, by omega, HLL.out⟩, ?_⟩
              simp only [intOf]
              omega
            · have hpo' : ¬ (p : Int) = (o : Int) := by omega
              have hpo2 : ¬ (o : Int) = (p : Int) := by omega
              have hp' : (p : Int) < 8 := by omega
              have ho' : (o : Int) < 8 := by omega
              have yc : w6.cell? ⟨X, o * 8 + p, none⟩ = some (.bool true) := by
                rw [hll.s.cell, sq_get _ (by omega), hM]
              clear hll ha2
              go_wp2_with (first
                | (go_at_call 17; refine (HNU.out _ _).mono ?_; rintro e w' ⟨rfl, h⟩; replace h := h.symm; subst h))
              refine ⟨⟨n + 1, by simp, by omega, HLL.out⟩, ?_⟩
              simp only [intOf]
              omega
          · have hpo' : ¬ (p : Int) = (o : Int) := by omega
            have hpo2 : ¬ (o : Int) = (p : Int) := by omega
            have hp' : (p : Int) < 8 := by omega
            have ho' : (o : Int) < 8 := by omega
            have yc : w6.cell? ⟨X, o * 8 + p, none⟩ = some (.bool false) := by
              rw [hs.cell, sq_get _ (by omega), hf]
            have HS6 := hid hs
            have HFN : Hid (∀ w'', St 82 w'' X (sq (mid M (cmk M p o) 64)) → Kp (fun i => i = X) w6 w'' → ∃ G F β M, Ll w g Q X G F β M w'') := fun w'' s k => ⟨_, _, _, _, hfin w'' s k⟩
            have HMF := hid hf
            have HPO := hid hpo
            clear hs hfin hf ha2
            go_wp2_with (first
              | (go_at_call 17; refine (HNU.out _ _).mono ?_; rintro e w' ⟨rfl, h⟩; replace h := h.symm; subst h))
            clear yc
            go_loopw [12] (fun vi wr => ∃ x : Nat, vi = .int .i64 x ∧ x ≤ 8 ∧ St 82 wr X (sq (mid M (cmk M p o) (x * 8))) ∧ Kp (fun i => i = X) w6 wr) (fun vi _ => 8 - (intOf vi).toNat)
            case atStart => exact ⟨0, rfl, Nat.zero_le _, by rw [Nat.zero_mul, mid0]; exact HS6.out, Kp.refl _ _⟩
            case round =>
              obtain ⟨x, rfl, hx, hsx, hkx⟩ := hrel
              clear HS6
              by_cases hxlt : x < 8
              · have hxlt' : (x : Int) < 8 := by omega
                have HSX := hid hsx
                have HKX := hid hkx
                clear hsx hkx
                go_wp2_with fail
                go_loopw [13] (fun vi wr => ∃ y : Nat, vi = .int .i64 y ∧ y ≤ 8 ∧ St 82 wr X (sq (mid M (cmk M p o) (x * 8 + y))) ∧ Kp (fun i => i = X) w6 wr) (fun vi _ => 8 - (intOf vi).toNat)
                case atStart => exact ⟨0, rfl, Nat.zero_le _, HSX.out, HKX.out⟩
                case round =>
                  obtain ⟨y, rfl, hy, hsy, hky⟩ := hrel
                  clear HSX HKX
                  by_cases hylt : y < 8
                  · have hylt' : (y : Int) < 8 := by omega
                    have HSX := hid hsy
                    have HKP := hid hky
                    have hcm := cmk_at M p o (x := x) (y := y) hylt
                    have hc1 : wr.cell? ⟨X, x * 8 + p, none⟩ = some (.bool (M (x * 8 + p))) := by
                      rw [hsy.cell, sq_get _ (by omega), mid_at _ _ _ (cmk_col hp HPO.out HMF.out x)]
                    have hc2 : wr.cell? ⟨X, o * 8 + y, none⟩ = some (.bool (M (o * 8 + y))) := by
                      rw [hsy.cell, sq_get _ (by omega), mid_at _ _ _ (cmk_row hp HPO.out HMF.out hylt)]
                    have hcf := hsy.frozen (x * 8 + y)
                    have hc3 : ∃ v, wr.cell? ⟨X, x * 8 + y, none⟩ = some v := ⟨_, by rw [hsy.cell, sq_get _ (by omega)]⟩
                    obtain ⟨v3, hc3⟩ := hc3
                    clear hsy hky
                    by_cases h1 : x = p
                    · have h1i : ((x : Int) == (p : Int)) = true := by simp; omega
                      by_cases h2 : y = o
                      · have h2i : ((y : Int) == (o : Int)) = true := by simp; omega
                        have hC : cmk M p o (x * 8 + y) = true := by rw [hcm]; simp [*]
                        clear hcm h1 h2
                        go_wp2_with fail
                        refine ⟨⟨y + 1, by simp, by omega, ?_, HKP.out.trans (kp_setCell wr X _ _ (fun i => i = X) rfl) (fun _ _ h => h)⟩, by simp [intOf]; omega⟩
                        have h9 := HSX.out.set (x * 8 + y) (.bool true)
                        rw [sq_set _ (by omega), mid_yes _ _ hC] at h9
                        exact h9
                      · have h2i : ((y : Int) == (o : Int)) = false := by simp; omega
                        cases h4 : M (o * 8 + y) with
                        | true =>
                          rw [h4] at hc2
                          have hC : cmk M p o (x * 8 + y) = true := by rw [hcm]; simp [*]
                          clear hcm h1 h2
                          go_wp2_with fail
                          refine ⟨⟨y + 1, by simp, by omega, ?_, HKP.out.trans (kp_setCell wr X _ _ (fun i => i = X) rfl) (fun _ _ h => h)⟩, by simp [intOf]; omega⟩
                          have h9 := HSX.out.set (x * 8 + y) (.bool true)
                          rw [sq_set _ (by omega), mid_yes _ _ hC] at h9
                          exact h9
                        | false =>
                          rw [h4] at hc2
                          have hC : cmk M p o (x * 8 + y) = false := by rw [hcm]; simp [*]
                          clear hcm h1 h2
                          go_wp2_with fail
                          refine ⟨⟨y + 1, by simp, by omega, ?_, HKP.out⟩, by simp [intOf]; omega⟩
                          have h9 := HSX.out
                          rw [mid_no _ _ hC] at h9
                          exact h9
                    · have h1i : ((x : Int) == (p : Int)) = false := by simp; omega
                      cases h3 : M (x * 8 + p) with
                      | true =>
                        rw [h3] at hc1
                        by_cases h2 : y = o
                        · have h2i : ((y : Int) == (o : Int)) = true := by simp; omega
                          have hC : cmk M p o (x * 8 + y) = true := by rw [hcm]; simp [*]
                          clear hcm h1 h2
                          go_wp2_with fail
                          refine ⟨⟨y + 1, by simp, by omega, ?_, HKP.out.trans (kp_setCell wr X _ _ (fun i => i = X) rfl) (fun _ _ h => h)⟩, by simp [intOf]; omega⟩
                          have h9 := HSX.out.set (x * 8 + y) (.bool true)
                          rw [sq_set _ (by omega), mid_yes _ _ hC] at h9
                          exact h9
                        · have h2i : ((y : Int) == (o : Int)) = false := by simp; omega
                          cases h4 : M (o * 8 + y) with
                          | true =>
                            rw [h4] at hc2
                            have hC : cmk M p o (x * 8 + y) = true := by rw [hcm]; simp [*]
                            clear hcm h1 h2
                            go_wp2_with fail
                            refine ⟨⟨y + 1, by simp, by omega, ?_, HKP.out.trans (kp_setCell wr X _ _ (fun i => i = X) rfl) (fun _ _ h => h)⟩, by simp [intOf]; omega⟩
                            have h9 := HSX.out.set (x * 8 + y) (.bool true)
                            rw [sq_set _ (by omega), mid_yes _ _ hC] at h9
                            exact h9
                          | false =>
                            rw [h4] at hc2
                            have hC : cmk M p o (x * 8 + y) = false := by rw [hcm]; simp [*]
                            clear hcm h1 h2
                            go_wp2_with fail
                            refine ⟨⟨y + 1, by simp, by omega, ?_, HKP.out⟩, by simp [intOf]; omega⟩
                            have h9 := HSX.out
                            rw [mid_no _ _ hC] at h9
                            exact h9
                      | false =>
                        rw [h3] at hc1
                        have hC : cmk M p o (x * 8 + y) = false := by rw [hcm]; simp [*]
                        clear hcm h1
                        go_wp2_with fail
                        refine ⟨⟨y + 1, by simp, by omega, ?_, HKP.out⟩, by simp [intOf]; omega⟩
                        have h9 := HSX.out
                        rw [mid_no _ _ hC] at h9
                        exact h9
                  · obtain rfl : y = 8 := by omega
                    have h9 : St 82 wr X (sq (mid M (cmk M p o) ((x + 1) * 8))) := by
                      rw [show (x + 1) * 8 = x * 8 + 8 by omega]; exact hsy
                    have HSX := hid h9
                    have HKP := hid hky
                    clear hsy hky h9
                    go_wp2_with fail
                    exact ⟨⟨x + 1, by simp, by omega, HSX.out, HKP.out⟩, by simp [intOf]; omega⟩
              · obtain rfl : x = 8 := by omega
                have HFF := hid (HFN.out _ hsx hkx)
                clear hsx hkx
                go_wp2_with fail
                exact ⟨⟨n + 1, by simp, by omega, HFF.out⟩, by simp [intOf]; omega⟩
        · obtain rfl : n = m := by omega
          obtain ⟨G, F, β, M, hll⟩ := HL1.out
          have HNIN : Hid (Nin G.c G.L) := fun a ha b hb => hll.v.cm.ks.nin a (hll.v.iv.ll a ha) b (hll.v.iv.ll b hb)
          have HYL : Hid (∀ b ∈ G.L, ∀ i zs, G.y b = some (i, zs) → zs.length = 2 ^ 9) := fun b hb i zs e => hll.v.yl b (hll.v.cm.lb b hb) i zs e
          have HND := hid hll.v.cm.ln.nodup
          have HE := hid hll.e
          have HMU : Hid (mu G ≤ 16) := by
            have := mu_len G
            rw [hll.e.len] at this
            exact this
          have HB0 : Hid (∃ j H q F, Lb w g Q G β 0 j H q F wr) := ⟨0, G, q4, F, hll.v, .refl _, by omega, fun i hi => by omega, hll.lo⟩
          clear hll HL1
          go_wp2_with fail
          go_loopw [14] (fun vi wr => ∃ n : Nat, vi = .int .i64 n ∧ n ≤ 8 ∧ ∃ j H q F, Lb w g Q G β n j H q F wr) (fun vi _ => 8 - (intOf vi).toNat)
          case atStart => exact ⟨0, rfl, Nat.zero_le _, HB0.out⟩
          case round =>
            obtain ⟨k, rfl, hk, j, H, q, F1, hlb⟩ := hrel
            clear HB0
            by_cases hlt2 : k < 8
            · have hlt' : (k : Int) < 8 := by omega
              have HBK := hid (hlb.back HE.out hlt2 HMU.out)
              clear hlb
              unfold ptr at *
              go_wp2_with fail
              refine HBK.out.mono ?_
              rintro _ w5 ⟨rfl, hlb2⟩
              have HLB2 := hid hlb2
              clear hlb2 HBK
              go_wp2_with (first
                | (go_at_call 17; refine (HNU.out _ _).mono ?_; rintro e w' ⟨rfl, h⟩; replace h := h.symm; subst h))
              exact ⟨⟨k + 1, by simp, by omega, HLB2.out⟩, by simp [intOf]; omega⟩
            · obtain rfl : k = 8 := by omega
              have HLB := hid hlb
              have HST := hid (state_any hlb.v 3)
              clear hlb
              unfold ptr at *
              go_wp2_with fail
              refine HST.out.mono ?_
              intro e w5 hs
              obtain ⟨pe, rfl, hlb⟩ := HLB.out.state HE.out hs
              replace HLB := hid hlb
              clear hs hlb HST
              have h86 := St.new 86 w5 #[.bool false, .bool pe, .slice none 0 0]
              have k86 : Kp (fun _ => False) w5 (w5.alloc (.cells #[.bool false, .bool pe, .slice none 0 0] 86)) := (Kp.refl _ _).alloc _
              replace HLB := hid (HLB.out.kp0 k86)
              go_wp2_with fail
              obtain ⟨b86, hb86⟩ : ∃ b, w5.heap.size = b := ⟨_, rfl⟩
              obtain ⟨w6, hw6⟩ : ∃ w6, w5.alloc (.cells #[.bool false, .bool pe, .slice none 0 0] 86) = w6 := ⟨_, rfl⟩
              rw [hw6] at h86 HLB
              rw [hb86] at h86
              rw [hw6, hb86]
              have H86 := hid h86
              have HCN := hid (counts_any HLB.out.v)
              rw [HLB.out.n3 HE.out HND.out] at HCN
              clear h86 k86 hw6 hb86
              unfold ptr at *
              refine HCN.out.mono ?_
              rintro _ w7 ⟨rfl, k7⟩
              obtain ⟨hsz, hct⟩ := HLB.out.file HE.out HNIN.out HYL.out
              replace HLB := hid (HLB.out.kp0 k7)
              replace H86 := hid (H86.out.kp k7 (fun e => e))
              obtain ⟨c1, hc1⟩ : ∃ c, (H.n1 : Int) = c := ⟨_, rfl⟩
              obtain ⟨c2, hc2⟩ : ∃ c, (H.n2 : Int) = c := ⟨_, rfl⟩
              obtain ⟨c4, hc4⟩ : ∃ c, (H.n4 : Int) = c := ⟨_, rfl⟩
              simp only [hc1, hc2, hc4]
              have HSZ := hid hsz
              have HCT := hid hct
              clear hsz hct hc1 hc2 hc4 k7 HCN
              have h79 := St.new 79 w7 #[.int .i64 c1, .int .i64 c2, .int .i64 ((8 : Nat) : Int), .int .i64 c4]
              have k79 : Kp (fun _ => False) w7 (w7.alloc (.cells #[.int .i64 c1, .int .i64 c2, .int .i64 ((8 : Nat) : Int), .int .i64 c4] 79)) := (Kp.refl _ _).alloc _
              replace HLB := hid (HLB.out.kp0 k79)
              replace H86 := hid (H86.out.kp k79 (fun e => e))
              have HWO := fun U => hid (works_any U)
              go_wp2_with fail
              obtain ⟨b79, hb79⟩ : ∃ b, w7.heap.size = b := ⟨_, rfl⟩
              obtain ⟨w8, hw8⟩ : ∃ w8, w7.alloc (.cells #[.int .i64 c1, .int .i64 c2, .int .i64 ((8 : Nat) : Int), .int .i64 c4] 79) = w8 := ⟨_, rfl⟩
              rw [hw8] at h79 HLB H86
              rw [hb79] at h79
              change Calls _ _ _ (w7.alloc (.cells #[.int .i64 c1, .int .i64 c2, .int .i64 ((8 : Nat) : Int), .int .i64 c4] 79)) _
              rw [hw8, hb79]
              have z0 := H86.out.cell 0
              have z2 := H86.out.cell 2
              have z3 := h79.cell 2
              simp at z0 z2 z3
              have HWR := hid (wrote_any HLB.out.v.sw HSZ.out HCT.out)
              clear k79 hw8 hb79 h79
              unfold ptr at *
              go_wp2_with (first
                | (go_at_call 17; refine (HNU.out _ _).mono ?_; rintro e w' ⟨rfl, h⟩; replace h := h.symm; subst h))
              refine HWR.out.mono ?_
              rintro _ w9 ⟨rfl, k9⟩
              replace HLB := hid (HLB.out.kp0 k9)
              clear k9 HWR z0 z2 z3 H86
              go_wp2_with (first
                | (go_at_call 10; refine (HWO w9).out.mono ?_; rintro _ w10 ⟨rfl, k10⟩))
              go_ret
              exact ⟨rfl, HLB.out.lo.kp.trans k10 (fun _ _ h => h)⟩
end Go.Proofs.YtnccklbnncaeoaaGreat
