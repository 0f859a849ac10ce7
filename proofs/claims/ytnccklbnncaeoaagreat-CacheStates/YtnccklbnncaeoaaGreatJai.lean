import Derived.Test.YtnccklbnncaeoaaGreatJah
import Derived.Test.YtnccklbnncaeoaaGreatJad
import Derived.Test.YtnccklbnncaeoaaGreatJac
/- Who waits for whom: plain mathematics. It names no program. -/
namespace Go.Proofs.YtnccklbnncaeoaaGreat
set_option linter.unusedVariables false

/-- By one step or several. -/
def Rn (W : Nat → List Nat) : Nat → Nat → Nat → Prop
  | 0, a, b => b ∈ W a
  | n + 1, a, b => ∃ c, c ∈ W a ∧ Rn W n c b
def Rch (W : Nat → List Nat) (a b : Nat) : Prop := ∃ n, Rn W n a b
theorem Rch.one {W : Nat → List Nat} {a b : Nat} (h : b ∈ W a) : Rch W a b := ⟨0, h⟩
theorem Rch.step {W : Nat → List Nat} {a b c : Nat} (h : b ∈ W a) (k : Rch W b c) : Rch W a c := by
  obtain ⟨n, hn⟩ := k
  exact ⟨n + 1, b, h, hn⟩
theorem Rch.ind {W : Nat → List Nat} {motive : ∀ a b, Rch W a b → Prop} (one : ∀ {a b : Nat} (h : b ∈ W a), motive a b (.one h)) (step : ∀ {a b c : Nat} (h : b ∈ W a) (k : Rch W b c) (ih : motive b c k), motive a c (.step h k)) {a b : Nat} (h : Rch W a b) : motive a b h := by
  obtain ⟨n, hn⟩ := h
  induction n generalizing a with
  | zero => exact one hn
  | succ n ih =>
    obtain ⟨c, h1, h2⟩ := hn
    exact step h1 ⟨n, h2⟩ (ih h2)
theorem Rch.trans {W : Nat → List Nat} {a b c : Nat} (h : Rch W a b) (k : Rch W b c) : Rch W a c := by
  induction h using Rch.ind with
  | one h => exact .step h k
  | step h _ ih => exact .step h (ih k)
theorem Rch.last {W : Nat → List Nat} {a b : Nat} (h : Rch W a b) : ∃ c, b ∈ W c ∧ (c = a ∨ Rch W a c) := by
  induction h using Rch.ind with
  | one h => exact ⟨_, h, .inl rfl⟩
  | step h _ ih =>
    obtain ⟨c, h1, h2⟩ := ih
    refine ⟨c, h1, .inr ?_⟩
    rcases h2 with rfl | h2
    · exact .one h
    · exact .step h h2
theorem Rch.mono {W V : Nat → List Nat} (hs : ∀ a b, b ∈ W a → b ∈ V a) {a b : Nat} (h : Rch W a b) : Rch V a b := by
  induction h using Rch.ind with
  | one h => exact .one (hs _ _ h)
  | step h _ ih => exact .step (hs _ _ h) ih
/-- There is a height that falls with each step: nobody waits for itself. -/
def Ranked (W : Nat → List Nat) : Prop := ∃ rk : Nat → Nat, ∀ a b, b ∈ W a → rk b < rk a
theorem Ranked.sub {W V : Nat → List Nat} (h : Ranked W) (hs : ∀ a b, b ∈ V a → b ∈ W a) : Ranked V := by
  obtain ⟨rk, h⟩ := h
  exact ⟨rk, fun a b hb => h a b (hs a b hb)⟩
theorem Ranked.none {W : Nat → List Nat} (h : ∀ a, W a = []) : Ranked W := ⟨fun _ => 0, fun a b hb => by rw [h] at hb; cases hb⟩
theorem Ranked.irr {W : Nat → List Nat} (h : Ranked W) (a : Nat) : ¬ Rch W a a := by
  obtain ⟨rk, h⟩ := h
  have : ∀ x y, Rch W x y → rk y < rk x := by
    intro x y hxy
    induction hxy using Rch.ind with
    | one hb => exact h _ _ hb
    | step hb _ ih => exact Nat.lt_trans ih (h _ _ hb)
  exact fun hr => Nat.lt_irrefl _ (this _ _ hr)
/-- One more step from p to o, where o does not lead to p. -/
theorem Ranked.add {W V : Nat → List Nat} {p o : Nat} (h : Ranked W) (hn : ¬ Rch W o p) (hp : o ≠ p) (hV : ∀ a b, b ∈ V a → b ∈ W a ∨ (a = p ∧ b = o)) : Ranked V := by
  obtain ⟨rk, h⟩ := h
  have hex : ∀ x, ∃ n, ((x = p ∨ Rch W x p) → n = rk x + rk o + 1) ∧ (¬ (x = p ∨ Rch W x p) → n = rk x) := fun x => by
    by_cases hx : x = p ∨ Rch W x p
    · exact ⟨_, fun _ => rfl, fun e => absurd hx e⟩
    · exact ⟨_, fun e => absurd e hx, fun _ => rfl⟩
  refine ⟨fun x => (hex x).choose, fun a b hb => ?_⟩
  have ha1 := (hex a).choose_spec
  have hb1 := (hex b).choose_spec
  dsimp only
  rcases hV a b hb with h1 | ⟨rfl, rfl⟩
  · have h2 := h a b h1
    by_cases hb' : b = p ∨ Rch W b p
    · have ha : a = p ∨ Rch W a p := by
        rcases hb' with rfl | hb'
        · exact .inr (.one h1)
        · exact .inr (.step h1 hb')
      rw [hb1.1 hb', ha1.1 ha]
      omega
    · rw [hb1.2 hb']
      by_cases ha : a = p ∨ Rch W a p
      · rw [ha1.1 ha]; omega
      · rw [ha1.2 ha]; exact h2
  · have hb' : ¬ (b = a ∨ Rch W b a) := fun x => x.elim hp hn
    rw [hb1.2 hb', ha1.1 (.inl rfl)]
    omega
/-- A search that is done, and has not come to o: nobody behind leads to it. -/
theorem dfs_none {W : Nat → List Nat} {p o : Nat} {S : Nat → Prop} (h1 : ∀ x ∈ W p, x ≠ o ∧ S x) (h2 : ∀ y, S y → ∀ x ∈ W y, x ≠ o ∧ S x) : ¬ Rch W p o := by
  have : ∀ a b, Rch W a b → (∀ x ∈ W a, x ≠ o ∧ S x) → b ≠ o := by
    intro a b hr
    induction hr using Rch.ind with
    | one hb => exact fun h => (h _ hb).1
    | step hb _ ih => exact fun h => ih (h2 _ (h _ hb).2)
  exact fun hr => this _ _ hr h1 rfl
/-- Those who stand at or below a bound, counted; a list that grows by one that was not there. -/
theorem miss_lt {K S : List Nat} {x : Nat} (hx : x ∈ K) (hs : x ∉ S) : (K.filter (fun k => decide (k ∉ x :: S))).length < (K.filter (fun k => decide (k ∉ S))).length := by
  have hsub : ∀ l : List Nat, (l.filter (fun k => decide (k ∉ x :: S))).length ≤ (l.filter (fun k => decide (k ∉ S))).length := by
    intro l
    induction l with
    | nil => exact Nat.le_refl _
    | cons a l ih =>
      by_cases h1 : a ∉ x :: S
      · have h2 : a ∉ S := fun h => h1 (List.mem_cons_of_mem _ h)
        rw [List.filter_cons_of_pos (by simpa using h1), List.filter_cons_of_pos (by simpa using h2)]
        simpa using ih
      · rw [List.filter_cons_of_neg (by simpa using h1)]
        by_cases h2 : a ∉ S
        · rw [List.filter_cons_of_pos (by simpa using h2), List.length_cons]; omega
        · rw [List.filter_cons_of_neg (by simpa using h2)]; exact ih
  obtain ⟨l1, l2, rfl⟩ := List.append_of_mem hx
  rw [List.filter_append, List.filter_append, List.length_append, List.length_append, List.filter_cons_of_neg (by simp), List.filter_cons_of_pos (by simpa using hs), List.length_cons]
  have := hsub l1
  have := hsub l2
  omega
end Go.Proofs.YtnccklbnncaeoaaGreat
/- cache: what always holds of what is known; plain mathematics. -/
namespace Go.Proofs.YtnccklbnncaeoaaGreat
open Go.RowKit
set_option linter.unusedVariables false
set_option linter.unusedSimpArgs false
/-- What holds at all times. -/
structure Iv (G : Gc) : Prop where
  wk : ∀ b a, a ∈ G.W b → b ∈ G.K ∧ a ∈ G.K
  wr : ∀ b a, a ∈ G.W b ↔ b ∈ G.R a
  rk : Ranked G.W
  kb : ∀ b ∈ G.K, b ∈ G.B
  lk : ∀ b, b ∈ G.L ↔ b ∈ G.B ∧ G.y b ≠ none
  ll : ∀ b ∈ G.L, b ∈ G.K
  pk : ∀ b ∈ G.B, (G.c b).pe = true → b ∈ G.K ∧ b ∈ G.P
  dk : ∀ b ∈ G.B, (G.c b).di = true → b ∈ G.L
  hp : Hpd G.c G.L
/-- Whoever is waited for, but for b, is dirty or pending. -/
def Opx (G : Gc) (b : Nat) : Prop := ∀ x a, a ∈ G.W x → a ≠ b → (G.c a).di = true ∨ (G.c a).pe = true
def Op (G : Gc) : Prop := ∀ x a, a ∈ G.W x → (G.c a).di = true ∨ (G.c a).pe = true
/-- Some wait no more for some that are not dirty. -/
structure Les (G G' : Gc) : Prop where
  kl : G'.kl = G.kl
  pm : G'.pm = G.pm
  lv : G'.lv = G.lv
  y : G'.y = G.y
  B : G'.B = G.B
  L : G'.L = G.L
  t : G'.t = G.t
  n1 : G'.n1 = G.n1
  n2 : G'.n2 = G.n2
  n3 : G'.n3 = G.n3
  c : ∀ b, (G'.c b).n = (G.c b).n ∧ (G'.c b).bv = (G.c b).bv ∧ (G'.c b).di = (G.c b).di ∧ (G'.c b).tk = (G.c b).tk ∧ (G'.c b).wm = (G.c b).wm ∧ (G'.c b).rm = (G.c b).rm
  K : ∀ b, b ∈ G'.K → b ∈ G.K
  W : ∀ b a, a ∈ G'.W b → a ∈ G.W b
  D : ∀ b a, a ∈ G.W b → (G.c a).di = true → a ∈ G'.W b
theorem Les.refl (G : Gc) : Les G G := ⟨rfl, rfl, rfl, rfl, rfl, rfl, rfl, rfl, rfl, rfl, fun _ => ⟨rfl, rfl, rfl, rfl, rfl, rfl⟩, fun _ h => h, fun _ _ h => h, fun _ _ h _ => h⟩
theorem Les.trans {G H I : Gc} (h : Les G H) (k : Les H I) : Les G I :=
  ⟨k.kl.trans h.kl, k.pm.trans h.pm, k.lv.trans h.lv, k.y.trans h.y, k.B.trans h.B, k.L.trans h.L, k.t.trans h.t, k.n1.trans h.n1, k.n2.trans h.n2, k.n3.trans h.n3,
   fun b => ⟨(k.c b).1.trans (h.c b).1, (k.c b).2.1.trans (h.c b).2.1, (k.c b).2.2.1.trans (h.c b).2.2.1, (k.c b).2.2.2.1.trans (h.c b).2.2.2.1, (k.c b).2.2.2.2.1.trans (h.c b).2.2.2.2.1, (k.c b).2.2.2.2.2.trans (h.c b).2.2.2.2.2⟩,
   fun b hb => h.K b (k.K b hb), fun b a ha => h.W b a (k.W b a ha), fun b a ha hd => k.D b a (h.D b a ha hd) (by rw [(h.c a).2.2.1]; exact hd)⟩
/-- One that is nothing, and for whom nobody waits, is let go of. -/
theorem Iv.forget {G : Gc} (h : Iv G) (b : Nat) (hR : dead G b → G.R b = []) : Iv (gForget G b) := by
  unfold gForget
  by_cases hd : dead G b
  · rw [if_pos hd]
    have hr := hR hd
    obtain ⟨h1, h2, h3⟩ := hd
    have mem : ∀ a, a ∈ G.K.filter (fun a => decide (a ≠ b)) ↔ a ∈ G.K ∧ a ≠ b := fun a => by simp
    refine ⟨fun x a ha => ?_, h.wr, h.rk, fun a ha => h.kb a ((mem a).1 ha).1, h.lk, fun a ha => ?_, fun a ha hp => ?_, h.dk, h.hp⟩
    · have := h.wk x a ha
      refine ⟨(mem x).2 ⟨this.1, ?_⟩, (mem a).2 ⟨this.2, ?_⟩⟩
      · rintro rfl
        change a ∈ G.W x at ha
        rw [h3] at ha; cases ha
      · rintro rfl
        have := (h.wr x a).1 ha
        rw [hr] at this; cases this
    · refine (mem a).2 ⟨h.ll a ha, ?_⟩
      rintro rfl
      exact ((h.lk a).1 ha).2 h1
    · obtain ⟨k1, k2⟩ := h.pk a ha hp
      refine ⟨(mem a).2 ⟨k1, ?_⟩, k2⟩
      rintro rfl
      change (G.c a).pe = true at hp
      rw [h2] at hp; cases hp
  · rw [if_neg hd]; exact h
theorem les_forget (G : Gc) (b : Nat) : Les G (gForget G b) := by
  unfold gForget
  split
  · exact ⟨rfl, rfl, rfl, rfl, rfl, rfl, rfl, rfl, rfl, rfl, fun _ => ⟨rfl, rfl, rfl, rfl, rfl, rfl⟩, fun a ha => (List.mem_filter.1 ha).1, fun _ _ h => h, fun _ _ h _ => h⟩
  · exact Les.refl G
theorem forget_wpR (G : Gc) (b : Nat) : (gForget G b).W = G.W ∧ (gForget G b).R = G.R ∧ (gForget G b).c = G.c ∧ (gForget G b).P = G.P ∧ (gForget G b).pv = G.pv ∧ (gForget G b).n4 = G.n4 := by
  unfold gForget
  split <;> exact ⟨rfl, rfl, rfl, rfl, rfl, rfl⟩
theorem settle_wpR (G : Gc) (b : Nat) : (gSettle G b).c = G.c ∧ (gSettle G b).P = G.P ∧ (gSettle G b).pv = G.pv ∧ (gSettle G b).n4 = G.n4 := by
  have := forget_wpR { gS G b (G.R b) with R := upd G.R b [] } b
  exact ⟨this.2.2.1, this.2.2.2.1, this.2.2.2.2.1, this.2.2.2.2.2⟩
theorem set_wpR (G : Gc) (b : Nat) : (gSet G b).c = G.c ∧ (gSet G b).P = G.P ∧ (gSet G b).pv = G.pv ∧ (gSet G b).n4 = G.n4 := by
  unfold gSet
  split
  · have := forget_wpR G b
    exact ⟨this.2.2.1, this.2.2.2.1, this.2.2.2.2.1, this.2.2.2.2.2⟩
  · exact settle_wpR G b
theorem gS_W {G : Gc} (h : Iv G) (b x a : Nat) : a ∈ (gS G b (G.R b)).W x ↔ a ∈ G.W x ∧ a ≠ b := by
  unfold gS
  dsimp only
  split
  · simp
  · rename_i hx
    constructor
    · intro ha
      refine ⟨ha, ?_⟩
      rintro rfl
      exact hx ((h.wr x a).1 ha)
    · exact fun ha => ha.1
theorem Iv.settle {G : Gc} (h : Iv G) (b : Nat) (hd : (G.c b).di = false) (hpe : (G.c b).pe = false) (ho : Opx G b) : Iv (gSettle G b) ∧ Op (gSettle G b) ∧ Les G (gSettle G b) := by
  have hdz : ∀ a, dz G b a = true ↔ (G.y a = none ∧ (G.c a).pe = false ∧ (G.W a).filter (fun x => decide (x ≠ b)) = []) := fun a => by unfold dz; simp
  have hKm : ∀ a, a ∈ (gS G b (G.R b)).K ↔ a ∈ G.K ∧ ¬ (a ∈ G.R b ∧ dz G b a = true) := fun a => by
    unfold gS
    dsimp only
    rw [List.mem_filter]
    by_cases h1 : a ∈ G.R b <;> cases h2 : dz G b a <;> simp [h1]
  have hI : Iv { gS G b (G.R b) with R := upd G.R b [] } := by
    refine ⟨fun x a ha => ?_, fun x a => ?_, h.rk.sub (fun x a ha => ((gS_W h b x a).1 ha).1), fun a ha => h.kb a ((hKm a).1 ha).1, h.lk, fun a ha => ?_, fun a ha hp => ?_, h.dk, h.hp⟩
    · have ha2 := (gS_W h b x a).1 ha
      have hk := h.wk x a ha2.1
      refine ⟨(hKm x).2 ⟨hk.1, ?_⟩, (hKm a).2 ⟨hk.2, ?_⟩⟩
      · rintro ⟨_, h2⟩
        have h3 := ((hdz x).1 h2).2.2
        have : a ∈ (G.W x).filter (fun x => decide (x ≠ b)) := by simp [ha2.1, ha2.2]
        rw [h3] at this; cases this
      · rintro ⟨_, h2⟩
        have h3 := (hdz a).1 h2
        rcases ho x a ha2.1 ha2.2 with h4 | h4
        · exact ((h.lk a).1 (h.dk a (h.kb a hk.2) h4)).2 h3.1
        · rw [h3.2.1] at h4; cases h4
    · show a ∈ (gS G b (G.R b)).W x ↔ x ∈ upd G.R b [] a
      rw [gS_W h b x a]
      unfold upd
      by_cases e : a = b
      · subst e; simp
      · rw [if_neg e, ← h.wr x a]
        simp [e]
    · refine (hKm a).2 ⟨h.ll a ha, ?_⟩
      rintro ⟨_, h2⟩
      exact ((h.lk a).1 ha).2 ((hdz a).1 h2).1
    · obtain ⟨k1, k2⟩ := h.pk a ha hp
      refine ⟨(hKm a).2 ⟨k1, ?_⟩, k2⟩
      rintro ⟨_, h2⟩
      have := ((hdz a).1 h2).2.1
      change (G.c a).pe = true at hp
      rw [this] at hp; cases hp
  have hw := forget_wpR { gS G b (G.R b) with R := upd G.R b [] } b
  refine ⟨hI.forget b (fun _ => upd_same _ _ _), fun x a ha => ?_, Les.trans (H := { gS G b (G.R b) with R := upd G.R b [] }) ⟨rfl, rfl, rfl, rfl, rfl, rfl, rfl, rfl, rfl, rfl, fun _ => ⟨rfl, rfl, rfl, rfl, rfl, rfl⟩, fun a ha => ((hKm a).1 ha).1, fun x a ha => ((gS_W h b x a).1 ha).1, fun x a ha hda => (gS_W h b x a).2 ⟨ha, fun e => by rw [e, hd] at hda; cases hda⟩⟩ (les_forget _ b)⟩
  unfold gSettle at ha ⊢
  rw [hw.1] at ha
  rw [hw.2.2.1]
  have := (gS_W h b x a).1 ha
  exact ho x a this.1 this.2
theorem Iv.set {G : Gc} (h : Iv G) (b : Nat) (hb : b ∈ G.B) (ho : Opx G b) : Iv (gSet G b) ∧ Op (gSet G b) ∧ Les G (gSet G b) := by
  unfold gSet
  by_cases hu : ((G.c b).di || (G.c b).pe) = true
  · rw [if_pos hu]
    have hnd : ¬ dead G b := by
      rintro ⟨h1, h2, h3⟩
      rw [h2, Bool.or_false] at hu
      exact ((h.lk b).1 (h.dk b hb hu)).2 h1
    have e : gForget G b = G := if_neg hnd
    rw [e]
    refine ⟨h, fun x a ha => ?_, Les.refl G⟩
    by_cases e1 : a = b
    · subst e1
      simpa using hu
    · exact ho x a ha e1
  · rw [if_neg hu]
    simp only [Bool.not_eq_true, Bool.or_eq_false_iff] at hu
    exact h.settle b hu.1 hu.2 ho
theorem Op.x {G : Gc} (h : Op G) (b : Nat) : Opx G b := fun x a ha _ => h x a ha
/-- What settle asks. -/
theorem Iv.rset {G : Gc} (h : Iv G) (b : Nat) : ∀ a ∈ G.R b, a ∈ G.K ∧ a ≠ b ∧ ∀ x ∈ G.W a, x ∈ G.K := fun a ha => by
  have h1 := (h.wr a b).2 ha
  refine ⟨(h.wk a b h1).1, ?_, fun x hx => (h.wk a x hx).2⟩
  rintro rfl
  exact h.rk.irr a (.one h1)
end Go.Proofs.YtnccklbnncaeoaaGreat
/- A file is made. -/
namespace Go.Proofs.YtnccklbnncaeoaaGreat
open Go.RowKit

/-- A store into a map, as one step of a region that draws its order. -/
theorem step_update_mp {κ : Type} [DecidableEq κ] {P : Program} {K E T : TypeId} {d : TypeDesc} {mk : κ → Value} {ops : Array Oper} {o : Oper} {a : Act} {w : World} {C : Act → World → Prop} {Q : Exit → Act → World → Prop} {X : Prop} (hgd : o.guard = none) (m x u : Operand) (ho : o.op = Op.mapUpdate T m x u) (ky : Ky P K d mk) (ht : P.underlying T = some (.map K E)) (b c : Nat) (es : List (κ × Value × Nat))
    (hm : a.eval m = .map (some b)) (h : Mp mk w b es c) (k : κ) (hx : a.eval x = mk k) (v : Value) (hv : a.eval u = v) (hK : ∀ w', Mp mk w' b (mput es k v c) (mclk es k c) → w.grownBy w' (some b) → C (a.put o.dst undef) w') :
    if Region.wanted o (yielded ops a.tmps) = true then Oper.wp P o a w C Q else X := by
  have hw : Region.wanted o (yielded ops a.tmps) = true := by simp [Region.wanted, hgd]
  rw [if_pos hw]
  have hrun := run_update_mp ky ht h k v
  obtain ⟨r1, r2⟩ := mp_set h (h.2.put k v)
  unfold Oper.wp
  simp [execOp, ho, hm, hx, hv, hrun]
  exact hK _ r1 r2
/-- The error of a fate. -/
def ferr (k : Int) : Int := if k = 1 then 5 else if k = 2 then 6 else 0
theorem came_f (k n : Int) (w : World) : Calls Tryz.prog 90 #[.agg #[.int .i64 k, .int .i64 n]] w fun e w' => e = .returned (.int .i64 (ferr k)) ∧ Below w.heap.size w w' := came_any k n w
section
variable {D : Nat → Prop} {w : World} {g fm : Nat} {fv : Value} {steps : Nat} {fs : List Fe} {ft : List (Int × Int)} {es : List (ByteArray × Value × Nat)} {c : Nat}
/-- Only the step has been counted. -/
theorem Sr.stepped {W : World} {fv' : Value} (h : Sr D w g fm fv steps fs ft es c) (hs : St 158 W g #[.map (some fm), fv', .int .i64 ((steps + 1 : Nat) : Int)]) (hf : Fv W fv' ft.tail) (ho : fv'.ownBlock = fv.ownBlock) (k : Kp (fun i => i = g) w W) (hb : steps < 1000000000) : Sr D W g fm fv' (steps + 1) fs ft.tail es c := by
  have hnd := h.nd
  have e : ownS g fm fv' fs = ownS g fm fv fs := by unfold ownS; rw [ho]
  have hg : ∀ i, i ∈ fm :: (fv.ownBlock.toList ++ ownF fs) → ¬ i = g := by
    intro i hi e
    subst e
    unfold ownS at hnd
    exact (List.nodup_cons.1 hnd).1 hi
  refine ⟨hs, kp_mp h.mp k (hg fm (by simp)), h.ef, fun f hf' => (h.fr f hf').kp k (fun i hi => hg i ?_) (fun i hi e => h.dn i hi (mem_ownS.2 (.inl e))), h.nm, hf, by rw [e]; exact h.nd, by rw [e]; exact h.dn, fun i hi => Nat.lt_of_lt_of_le (h.db i hi) k.size, by omega, h.nf⟩
  exact List.mem_cons_of_mem _ (List.mem_append_right _ (List.mem_flatMap.2 ⟨f, hf', hi⟩))
theorem Sr.fvg (h : Sr D w g fm fv steps fs ft es c) : fv.ownBlock ≠ some g := by
  intro e
  have hnd := h.nd
  unfold ownS at hnd
  exact (List.nodup_cons.1 hnd).1 (by rw [e]; simp)
end
set_option maxRecDepth 100000 in
set_option maxHeartbeats 1000000 in
theorem create_bad (s : ByteArray) (v : Value) (e0 : Int) (w : World) (hf : Calls Tryz.prog 87 #[v, .string s] w fun e w' => e = .returned (.int .i64 e0) ∧ w' = w) (he : e0 ≠ 0) :
    Calls Tryz.prog 40 #[v, .string s] w fun e w' => e = .returned (.int .i64 e0) ∧ w' = w := by
  have HF : Hid (Calls Tryz.prog 87 #[v, .string s] w fun e w' => e = .returned (.int .i64 e0) ∧ w' = w) := hf
  have hb : (e0 != 0) = true := by simpa using he
  clear hf
  go_enter Tryz.func40, Tryz.ntmps40
  go_wp2_with (first | (go_at_call 87; refine HF.out.mono ?_; rintro e w' ⟨rfl, rfl⟩))
  go_ret
  exact ⟨rfl, rfl⟩
set_option maxRecDepth 100000 in
set_option maxHeartbeats 1000000 in
theorem create_there (D : Nat → Prop) (w : World) (g fm : Nat) (fv : Value) (steps : Nat) (fs : List Fe) (ft : List (Int × Int)) (es : List (ByteArray × Value × Nat)) (c : Nat) (h : Sr D w g fm fv steps fs ft es c) (s : ByteArray) (hn : nmd s = true) (f : Fe) (hq : fget fs s = some f) :
    Calls Tryz.prog 40 #[.pointer (some ⟨g, 0, none⟩), .string s] w fun e w' => e = .returned (.int .i64 8) ∧ w' = w := by
  have HA : Hid (Calls Tryz.prog 87 #[.pointer (some ⟨g, 0, none⟩), .string s] w fun e w' => e = .returned (.int .i64 (if nmd s then 0 else 2)) ∧ w' = w) := allowed_live s g fm w h.c0 (by have := (nmd_ne hn).2.1; unfold maxLen; omega)
  have HN : Hid (nmd s = true) := hn
  have HM : Hid (Mp Value.string w fm es c) := h.mp
  have HQ : Hid ((mget es s).getD (.pointer none) = .pointer (some ⟨f.2.1.fb, 0, none⟩)) := by show _ = _; rw [mget_fs h.ef, hq]; rfl
  have c0 := h.c0
  clear hn h hq
  go_enter Tryz.func40, Tryz.ntmps40
  go_wp2_with (first | (go_at_call 87; refine HA.out.mono ?_; rintro e w' ⟨rfl, rfl⟩; rw [HN.out]) | (at_lookup; refine wpList_lookup_mp rfl _ _ rfl ky9 Tryz.underlying156 (.pointer none) (Tryz.zeroValue159 _) fm c es rfl HM.out s rfl (.pointer (some ⟨f.2.1.fb, 0, none⟩)) HQ.out ?_))
  go_ret
  exact ⟨rfl, rfl⟩
set_option maxRecDepth 100000 in
set_option maxHeartbeats 1000000 in
theorem create_full (D : Nat → Prop) (w : World) (g fm : Nat) (fv : Value) (steps : Nat) (fs : List Fe) (ft : List (Int × Int)) (es : List (ByteArray × Value × Nat)) (c : Nat) (h : Sr D w g fm fv steps fs ft es c) (s : ByteArray) (hn : nmd s = true) (hq : fget fs s = none) (hl : fs.length = 256) :
    Calls Tryz.prog 40 #[.pointer (some ⟨g, 0, none⟩), .string s] w fun e w' => e = .returned (.int .i64 6) ∧ w' = w := by
  have HA : Hid (Calls Tryz.prog 87 #[.pointer (some ⟨g, 0, none⟩), .string s] w fun e w' => e = .returned (.int .i64 (if nmd s then 0 else 2)) ∧ w' = w) := allowed_live s g fm w h.c0 (by have := (nmd_ne hn).2.1; unfold maxLen; omega)
  have HN : Hid (nmd s = true) := hn
  have HM : Hid (Mp Value.string w fm es c) := h.mp
  have HQ : Hid ((mget es s).getD (.pointer none) = .pointer none) := by show _ = _; rw [mget_fs h.ef, hq]; rfl
  have hle : es.length = 256 := by have := congrArg List.length h.ef; simp at this; omega
  have hll : (es.length : Int) = 256 := by omega
  have c0 := h.c0
  clear hn h hq hle
  go_enter Tryz.func40, Tryz.ntmps40
  go_wp2_with (first | (go_at_call 87; refine HA.out.mono ?_; rintro e w' ⟨rfl, rfl⟩; rw [HN.out]) | (at_lookup; refine wpList_lookup_mp rfl _ _ rfl ky9 Tryz.underlying156 (.pointer none) (Tryz.zeroValue159 _) fm c es rfl HM.out s rfl (.pointer none) HQ.out ?_) | (at_len; refine wpList_len_mp rfl _ rfl Tryz.underlying156 fm c es rfl HM.out ?_; rw [hll]))
  go_ret
  exact ⟨rfl, rfl⟩
set_option maxRecDepth 100000 in
set_option maxHeartbeats 1000000 in
theorem create_step (D : Nat → Prop) (w : World) (g fm : Nat) (fv : Value) (steps : Nat) (fs : List Fe) (ft : List (Int × Int)) (es : List (ByteArray × Value × Nat)) (c : Nat) (h : Sr D w g fm fv steps fs ft es c) (s : ByteArray) (hn : nmd s = true) (hq : fget fs s = none) (hl : fs.length < 256) (hsb : steps < 1000000000) (k0 n0 : Int) (hk : ft.headD (0, 0) = (k0, n0)) (hk0 : k0 ≠ 0) :
    Calls Tryz.prog 40 #[.pointer (some ⟨g, 0, none⟩), .string s] w fun e w' => e = .returned (.int .i64 (ferr k0)) ∧ ∃ fv', Sr D w' g fm fv' (steps + 1) fs ft.tail es c ∧ fv'.ownBlock = fv.ownBlock ∧ Kp (fun i => i = g) w w' := by
  have HA : Hid (Calls Tryz.prog 87 #[.pointer (some ⟨g, 0, none⟩), .string s] w fun e w' => e = .returned (.int .i64 (if nmd s then 0 else 2)) ∧ w' = w) := allowed_live s g fm w h.c0 (by have := (nmd_ne hn).2.1; unfold maxLen; omega)
  have HN : Hid (nmd s = true) := hn
  have HM : Hid (Mp Value.string w fm es c) := h.mp
  have HQ : Hid ((mget es s).getD (.pointer none) = .pointer none) := by show _ = _; rw [mget_fs h.ef, hq]; rfl
  have hle : es.length < 256 := by have := congrArg List.length h.ef; simp at this; omega
  have c0 := h.c0
  have HS : Hid (Sr D w g fm fv steps fs ft es c) := h
  have HK : Hid (ft.headD (0, 0) = (k0, n0)) := hk
  have hkb : (k0 == 0) = false := beq_eq_false_iff_ne.2 hk0
  have HSB : Hid (steps < 1000000000) := hsb
  have HSP := h.sb
  clear hn h hq hk hk0
  go_enter Tryz.func40, Tryz.ntmps40
  go_wp2_with (first | (go_at_call 87; refine HA.out.mono ?_; rintro e w' ⟨rfl, rfl⟩; rw [HN.out]) | (at_lookup; refine wpList_lookup_mp rfl _ _ rfl ky9 Tryz.underlying156 (.pointer none) (Tryz.zeroValue159 _) fm c es rfl HM.out s rfl (.pointer none) HQ.out ?_) | (at_len; refine wpList_len_mp rfl _ rfl Tryz.underlying156 fm c es rfl HM.out ?_) | (go_at_call 88; refine (step_any g _ fv steps ft _ HS.out.st (by omega) HS.out.fa HS.out.fvg).mono ?_; rintro e w1 ⟨rfl, fv1, s1, f1, o1, k1⟩; rw [HK.out]) | (go_at_call 90; refine (came_f k0 n0 _).mono ?_; rintro e w2 ⟨rfl, b2⟩))
  go_ret
  have kk : Kp (fun _ => False) w1 w2 := ((Kp.refl _ _).alloc _).trans (Kp.of_below b2) (fun _ _ h => h)
  exact ⟨rfl, fv1, (HS.out.stepped s1 f1 o1 k1 HSB.out).kp kk (fun _ _ h => h) (fun _ _ h => h), o1, k1.trans kk (fun _ _ h => h.elim)⟩
/-- A file is there now. -/
theorem Sr.made {D : Nat → Prop} {w W : World} {g fm : Nat} {fv : Value} {steps : Nat} {fs : List Fe} {ft : List (Int × Int)} {es : List (ByteArray × Value × Nat)} {c : Nat} {s : ByteArray} {a : Fa} (h : Sr D w g fm fv steps fs ft es c) (hq : fget fs s = none) (hl : fs.length < 256) (hn : nmd s = true)
    (hm : Mp Value.string W fm (mput es s (.pointer (some ⟨a.fb, 0, none⟩)) c) (mclk es s c)) (k : Kp (fun i => i = fm) w W) (hf : Fr D W a 0 zero []) (hnew : ∀ i, i ∈ a.own → w.heap.size ≤ i) : Sr D W g fm fv steps (fs ++ [(s, a, ⟨0, zero, []⟩)]) ft (mput es s (.pointer (some ⟨a.fb, 0, none⟩)) c) (mclk es s c) := by
  have hlt := h.lt
  have hnd := h.nd
  have hnfm : ∀ i, i ∈ ownS g fm fv fs → i = fm → i = fm := fun _ _ e => e
  have hap : ∀ i, (i = g ∨ fv.ownBlock = some i ∨ ∃ f ∈ fs, i ∈ f.2.1.own) → ¬ i = fm := by
    intro i hi e
    subst e
    unfold ownS at hnd
    rw [List.nodup_cons, List.nodup_cons] at hnd
    rcases hi with rfl | hi | ⟨f, hf', hi⟩
    · exact hnd.1 (by simp)
    · exact hnd.2.1 (List.mem_append_left _ (by simpa using hi))
    · exact hnd.2.1 (List.mem_append_right _ (List.mem_flatMap.2 ⟨f, hf', hi⟩))
  have hmn : mget es s = none := by rw [mget_fs h.ef, hq]; rfl
  have hput : mput es s (.pointer (some ⟨a.fb, 0, none⟩)) c = es ++ [(s, .pointer (some ⟨a.fb, 0, none⟩), c)] := by
    rcases fidx_put es s (.pointer (some ⟨a.fb, 0, none⟩)) 0 c with ⟨_, h2, _⟩ | ⟨j, u, h1, _⟩
    · exact h2
    · have := fidx_get es s 0
      rw [h1, hmn] at this
      cases this
  refine ⟨h.st.kp k (hap g (.inl rfl)), hm, ?_, ?_, ?_, h.fa.kp k (fun b hb => hap b (.inr (.inl hb))), ?_, ?_, fun i hi => Nat.lt_of_lt_of_le (h.db i hi) k.size, h.sb, by simp; omega⟩
  · rw [hput, List.map_append, h.ef]
    simp [fptr]
  · intro f hf'
    rcases List.mem_append.1 hf' with h1 | h1
    · exact (h.fr f h1).kp k (fun i hi => hap i (.inr (.inr ⟨f, h1, hi⟩))) (fun i hi e => h.dn i hi (mem_ownS.2 (.inr (.inl e))))
    · simp at h1
      rw [h1]
      exact hf
  · intro f hf'
    rcases List.mem_append.1 hf' with h1 | h1
    · exact h.nm f h1
    · simp at h1; rw [h1]; exact hn
  · have e : ownS g fm fv (fs ++ [(s, a, ⟨0, zero, []⟩)]) = ownS g fm fv fs ++ a.own := by
      unfold ownS
      rw [ownF_append]
      simp [ownF]
    rw [e, List.nodup_append]
    exact ⟨hnd, hf.nodup, fun x hx y hy e => by have := hlt x hx; have := hnew y hy; omega⟩
  · intro i hi hm'
    rcases mem_ownS.1 hm' with h1 | h1 | h1 | ⟨f, hf', h1⟩
    · exact h.dn i hi (mem_ownS.2 (.inl h1))
    · exact h.dn i hi (mem_ownS.2 (.inr (.inl h1)))
    · exact h.dn i hi (mem_ownS.2 (.inr (.inr (.inl h1))))
    · rcases List.mem_append.1 hf' with h2 | h2
      · exact h.dn i hi (mem_ownS.2 (.inr (.inr (.inr ⟨f, h2, h1⟩))))
      · simp at h2
        rw [h2] at h1
        have := hnew i h1
        have := h.db i hi
        omega
theorem fr_new (D : Nat → Prop) (w : World) (hd : ∀ i, D i → i < w.heap.size) : Fr D (((w.alloc (.map #[] 0)).alloc (.map #[] 0)).alloc (.cells #[.int .i64 0, .map (some w.heap.size), .map (some (w.heap.size + 1)), .slice none 0 0] 164)) ⟨w.heap.size + 2, w.heap.size, w.heap.size + 1, .slice none 0 0⟩ 0 zero [] := by
  have k1 : Kp (fun _ => False) (w.alloc (.map #[] 0)) (((w.alloc (.map #[] 0)).alloc (.map #[] 0)).alloc (.cells #[.int .i64 0, .map (some w.heap.size), .map (some (w.heap.size + 1)), .slice none 0 0] 164)) := ((Kp.refl _ _).alloc _).alloc _
  have m1 := kp_mp (Mp.new (Value.int .i64) w) k1 (fun h => h)
  have m2 := kp_mp (F := fun _ => False) (Mp.new (Value.int .i64) (w.alloc (.map #[] 0))) ((Kp.refl _ _).alloc (.cells #[.int .i64 0, .map (some w.heap.size), .map (some (w.heap.size + 1)), .slice none 0 0] 164)) (fun h => h)
  have st := St.new 164 ((w.alloc (.map #[] 0)).alloc (.map #[] 0)) #[.int .i64 0, .map (some w.heap.size), .map (some (w.heap.size + 1)), .slice none 0 0]
  rw [World.size_alloc] at m2
  rw [World.size_alloc, World.size_alloc] at st
  refine ⟨st, ⟨[], 0, m1, (fun _ h => by cases h), (fun _ _ h => by cases h), fun _ _ => rfl⟩, ⟨[], 0, ⟨m2, (fun _ h => by cases h), (fun _ _ h => by cases h), fun _ _ => rfl⟩, fun p hp => by cases hp⟩, ⟨[], rfl, (fun i hi => by simp at hi), rfl, .inl ⟨rfl, rfl⟩⟩, (by simp), fun i hi hm => ?_, (fun i hi => by have := hd i hi; simp [World.size_alloc]; omega), fun _ _ => rfl, (fun p hp => by cases hp), (by omega), (by simp)⟩
  have := hd i hi
  rcases (Fa.mem _ i).1 hm with h | h | h | h
  · simp at h; omega
  · simp at h; omega
  · simp at h; omega
  · cases h
set_option maxRecDepth 100000 in
set_option maxHeartbeats 2000000 in
theorem create_good (D : Nat → Prop) (w : World) (g fm : Nat) (fv : Value) (steps : Nat) (fs : List Fe) (ft : List (Int × Int)) (es : List (ByteArray × Value × Nat)) (c : Nat) (h : Sr D w g fm fv steps fs ft es c) (s : ByteArray) (hn : nmd s = true) (hq : fget fs s = none) (hl : fs.length < 256) (hsb : steps < 1000000000) (n0 : Int) (hk : ft.headD (0, 0) = (0, n0)) :
    Calls Tryz.prog 40 #[.pointer (some ⟨g, 0, none⟩), .string s] w fun e w' => e = .returned (.int .i64 0) ∧ ∃ fv' a es' c', Sr D w' g fm fv' (steps + 1) (fs ++ [(s, a, ⟨0, zero, []⟩)]) ft.tail es' c' ∧ fv'.ownBlock = fv.ownBlock ∧ (∀ i, i ∈ a.own → w.heap.size ≤ i) ∧ Kp (fun i => i = g ∨ i = fm) w w' := by
  have HA : Hid (Calls Tryz.prog 87 #[.pointer (some ⟨g, 0, none⟩), .string s] w fun e w' => e = .returned (.int .i64 (if nmd s then 0 else 2)) ∧ w' = w) := allowed_live s g fm w h.c0 (by have := (nmd_ne hn).2.1; unfold maxLen; omega)
  have HN : Hid (nmd s = true) := hn
  have HM : Hid (Mp Value.string w fm es c) := h.mp
  have HQ : Hid ((mget es s).getD (.pointer none) = .pointer none) := by show _ = _; rw [mget_fs h.ef, hq]; rfl
  have hle : es.length < 256 := by have := congrArg List.length h.ef; simp at this; omega
  have c0 := h.c0
  have HS : Hid (Sr D w g fm fv steps fs ft es c) := h
  have HK : Hid (ft.headD (0, 0) = (0, n0)) := hk
  have HFQ : Hid (fget fs s = none) := hq
  have HSB : Hid (steps < 1000000000) := hsb
  have HSP := h.sb
  clear hn h hq hk
  go_enter Tryz.func40, Tryz.ntmps40
  go_wp2_with (first | (go_at_call 87; refine HA.out.mono ?_; rintro e w' ⟨rfl, hww⟩; replace hww := hww.symm; subst hww; rw [HN.out]) | (at_lookup; refine wpList_lookup_mp rfl _ _ rfl ky9 Tryz.underlying156 (.pointer none) (Tryz.zeroValue159 _) fm c es rfl HM.out s rfl (.pointer none) HQ.out ?_) | (at_len; refine wpList_len_mp rfl _ rfl Tryz.underlying156 fm c es rfl HM.out ?_) | (go_at_call 88; refine (step_any g _ fv steps ft _ HS.out.st (by omega) HS.out.fa HS.out.fvg).mono ?_; rintro e w1 ⟨rfl, fv1, s1, f1, o1, k1⟩; rw [HK.out]))
  have st2 := St.new 137 w1 #[.int .i64 0, .int .i64 n0]
  have k2 : Kp (fun _ => False) w1 (w1.alloc (.cells #[.int .i64 0, .int .i64 n0] 137)) := (Kp.refl _ _).alloc _
  have z2 : (w1.alloc (.cells #[.int .i64 0, .int .i64 n0] 137)).heap.size = w1.heap.size + 1 := World.size_alloc _ _
  generalize w1.alloc (.cells #[.int .i64 0, .int .i64 n0] 137) = W2 at st2 k2 z2 ⊢
  have S2 := (HS.out.stepped s1 f1 o1 k1 HSB.out).kp k2 (fun _ _ h => h) (fun _ _ h => h)
  have g0 : W2.cell? ⟨g, 0, none⟩ = some (.map (some fm)) := S2.c0
  have HS2 : Hid (Sr D W2 g fm fv1 (steps + 1) fs ft.tail es c) := S2
  have HO1 : Hid (fv1.ownBlock = fv.ownBlock) := o1
  have K2 : Hid (Kp (fun i => i = g) w W2) := k1.trans k2 (fun _ _ h => h.elim)
  have zz := k1.size
  clear S2 o1 s1 f1 k1 k2
  refine wp_region_G (fun w' => w'.cell? ⟨g, 0, none⟩ = some (.map (some fm))) [6] hmix g0 (fun h0 => ?_)
  refine wpAnyG_takeW (i := 0) (v := .pointer (some ⟨g, 0, none⟩)) rfl (by kernel_rfl) (fun _ _ _ h => h) (Or.inl ⟨by rfl, fun w _ => by go_simp⟩) ?_
  refine wpAnyG_takeW (i := 1) (v := .pointer (some ⟨g, 0, none⟩)) rfl (by kernel_rfl) (fun _ _ _ h => h) (Or.inl ⟨by rfl, fun w _ => by go_simp⟩) ?_
  refine wpAnyG_takeW (i := 2) (v := .pointer (some ⟨g, 0, none⟩)) rfl (by kernel_rfl) (fun _ _ _ h => h) (Or.inl ⟨by rfl, fun w _ => by go_simp⟩) ?_
  refine wpAnyG_take (i := 3) (v := .map (some fm)) rfl (by kernel_rfl) (fun _ _ _ h => h) (Or.inl ⟨by rfl, fun w hSw => by (try dsimp only at hSw); go_simp⟩) h0 ?_
  refine wpAnyG_takeW (i := 4) (v := .string s) rfl (by kernel_rfl) (fun _ _ _ h => h) (Or.inl ⟨by rfl, fun w _ => by go_simp⟩) ?_
  refine wpAnyG_one (i := 5) (by kernel_rfl) rfl (fun K hK => ?_)
  go_simp
  refine (newFile_any _).mono ?_
  rintro e w3 ⟨rfl, hw3⟩
  have f3 : Fr D w3 ⟨W2.heap.size + 2, W2.heap.size, W2.heap.size + 1, .slice none 0 0⟩ 0 zero [] := by rw [hw3]; exact fr_new D W2.drew HS2.out.db
  have k3 : Kp (fun _ => False) W2 w3 := by rw [hw3]; exact ((((Kp.refl _ _).drew).alloc _).alloc _).alloc _
  have z3 : w3.heap.size = W2.heap.size + 3 := by rw [hw3]; simp [World.size_alloc]
  clear hw3
  go_wp2_with fail
  have S3 := HS2.out.kp k3 (fun _ _ h => h) (fun _ _ h => h)
  refine hK.out _ _ (fun _ _ => S3.c0) ?_
  clear hK K h0
  refine wpAnyG_one (i := 6) (by kernel_rfl) rfl (fun K hK => ?_)
  refine step_update_mp rfl (.tmp 34) (.tmp 35) (.tmp 36) rfl ky9 Tryz.underlying156 fm c es (by simp [Act.eval]) S3.mp s (by simp [Act.eval]) (.pointer (some ⟨W2.heap.size + 2, 0, none⟩)) (by simp [Act.eval]) ?_
  intro w4 m4 g4
  have k4 : Kp (fun i => i = fm) w3 w4 := Kp.of_grown g4 (fun i e => by cases e; rfl)
  have hfm := HS2.out.mp.lt
  have hfm0 := HM.out.lt
  have own3 : ∀ i, i ∈ (Fa.mk (W2.heap.size + 2) W2.heap.size (W2.heap.size + 1) (.slice none 0 0)).own → W2.heap.size ≤ i ∧ i < W2.heap.size + 3 := by
    intro i hi
    rcases (Fa.mem _ i).1 hi with h | h | h | h
    · dsimp only at h; omega
    · dsimp only at h; omega
    · dsimp only at h; omega
    · cases h
  have f4 := f3.kp k4 (fun i hi e => by have := own3 i hi; omega) (fun i hi e => HS2.out.dn i hi (mem_ownS.2 (.inr (.inl e))))
  have hnew : ∀ i, i ∈ (Fa.mk (W2.heap.size + 2) W2.heap.size (W2.heap.size + 1) (.slice none 0 0)).own → W2.heap.size ≤ i := fun i hi => (own3 i hi).1
  have S4 := HS2.out.made (W := w4) HFQ.out hl HN.out m4 ((k3.mono (G := fun i => i = fm) (fun _ _ h => h.elim)).trans k4 (fun _ _ h => h)) f4 hnew
  have st4 := (st2.kp k3 (fun h => h)).kp k4 (by omega)
  refine hK.out _ _ (fun h => absurd h (by decide)) ?_
  clear hK K
  refine wpAnyG_done (by kernel_rfl) ?_ _
  have d0 : w4.cell? ⟨w1.heap.size, 0, none⟩ = some (.int .i64 0) := st4.cell 0
  have d1 : w4.cell? ⟨w1.heap.size, 1, none⟩ = some (.int .i64 n0) := st4.cell 1
  have HS4 : Hid (Sr D w4 g fm fv1 (steps + 1) (fs ++ [(s, ⟨W2.heap.size + 2, W2.heap.size, W2.heap.size + 1, .slice none 0 0⟩, ⟨0, zero, []⟩)]) ft.tail (mput es s (.pointer (some ⟨W2.heap.size + 2, 0, none⟩)) c) (mclk es s c)) := S4
  clear S4 S3 f4 f3 m4 g4
  go_wp2_with (first | (go_at_call 90; refine (came_f 0 n0 _).mono ?_; rintro e w5 ⟨rfl, b5⟩))
  have S4 := HS4.out
  have kq : Kp (fun _ => False) w4 w5 := Kp.of_below b5
  have hnew : ∀ i, i ∈ (Fa.mk (W2.heap.size + 2) W2.heap.size (W2.heap.size + 1) (.slice none 0 0)).own → W2.heap.size ≤ i := fun i hi => (own3 i hi).1
  go_ret
  refine ⟨rfl, fv1, _, _, _, S4.kp kq (fun _ _ h => h) (fun _ _ h => h), HO1.out, fun i hi => ?_, ?_⟩
  · have := hnew i hi; omega
  · exact (((K2.out.mono (G := fun i => i = g ∨ i = fm) (fun _ _ h => .inl h)).trans k3 (fun _ _ h => h.elim)).trans k4 (fun _ _ h => .inr h)).trans kq (fun _ _ h => h.elim)
end Go.Proofs.YtnccklbnncaeoaaGreat
/- What a range over a function turns by itself leaves files alone. -/
namespace Go.Proofs.YtnccklbnncaeoaaGreat
open Go.RowKit Go.Shelf

/-- A step that turns at most one block from B on, which is no row of cells. -/
def Turns (B : Nat) (W W' : World) : Prop := ∃ row, W.grownBy W' row ∧ ∀ r, row = some r → B ≤ r ∧ ∃ o : Obj, W.heap[r]? = some o ∧ o.isCells = false
section
variable {B : Nat} {W W' : World}
theorem Turns.cell (h : Turns B W W') {a : Addr} {v : Value} (hc : W.cell? a = some v) : W'.cell? a = some v := by
  obtain ⟨row, hg, hr⟩ := h
  exact cell_kept hc hg (fun r e => (hr r e).2)
theorem Turns.row (h : Turns B W W') {g : Nat} {cs : Array Value} {t : TypeId} {fz : Nat × Nat} (hc : W.heap[g]? = some (.cells cs t fz)) : W'.heap[g]? = some (.cells cs t fz) := by
  obtain ⟨row, hg, hr⟩ := h
  refine (hg.block g (Array.getElem?_eq_some_iff.1 hc).1 (fun e => ?_)).trans hc
  obtain ⟨_, o, ho, hn⟩ := hr g e.symm
  rw [hc] at ho
  cases ho
  cases hn
theorem Turns.low (h : Turns B W W') {g : Nat} (hg : g < B) (hl : g < W.heap.size) : W'.heap[g]? = W.heap[g]? := by
  obtain ⟨row, hgr, hr⟩ := h
  exact hgr.block g hl (fun e => by have := (hr g e.symm).1; omega)
theorem Turns.size (h : Turns B W W') : W.heap.size ≤ W'.heap.size := by
  obtain ⟨row, hg, _⟩ := h
  exact hg.size
theorem Turns.kp (h : Turns B W W') : Kp (fun i => B ≤ i) W W' := by
  obtain ⟨row, hg, hr⟩ := h
  exact Kp.of_grown hg (fun i e => (hr i e).1)
theorem St.turns {t : TypeId} {g : Nat} {cs : Array Value} (hs : St t W g cs) (h : Turns B W W') : St t W' g cs := h.row hs
theorem Rw.turns {κ : IntKind} {t : TypeId} {g : Nat} {L : List Int} (hs : Rw κ t W g L) (h : Turns B W W') : Rw κ t W' g L := h.row hs
theorem Src.turns {κ : IntKind} {ao : Option Addr} {xs : List Int} (hs : Src κ W ao xs) (h : Turns B W W') : Src κ W' ao xs := by
  intro hp
  obtain ⟨b, off, e, hc⟩ := hs hp
  exact ⟨b, off, e, fun i hi => h.cell (hc i hi)⟩
theorem Bs.turns {D : Nat → Prop} {v : Value} {xs : List Int} (hs : Bs D W v xs) (h : Turns B W W') : Bs D W' v xs := by
  obtain ⟨g, off, cap, rfl, hg, hl, h1, h2, hc⟩ := hs
  exact ⟨g, off, cap, rfl, hg, Nat.lt_of_lt_of_le hl h.size, h1, h2, fun i hi => h.cell (hc i hi)⟩
theorem Sm.turns {D : Nat → Prop} {m c : Nat} {f d : Nat → Int} {es : List (Int × Value × Nat)} (hs : Sm D W m f d es c) (h : Turns B W W') (hm : m < B) : Sm D W' m f d es c :=
  ⟨hs.mp.of_block (h.low hm hs.mp.lt), hs.ks, fun j u hu => (hs.so j u hu).turns h, hs.no⟩
theorem Pr.turns {D : Nat → Prop} {pv : Value} {ps : List (Nat × List Int)} {vs : List Value} (hs : Pr D W pv ps vs) (h : Turns B W W') : Pr D W' pv ps vs := by
  refine ⟨hs.len, fun i hi => (hs.bs i hi).turns h, hs.row.1, ?_⟩
  rcases hs.row.2 with h1 | ⟨g, cap, cur, rfl, h1, h2, h3⟩
  · exact .inl h1
  · exact .inr ⟨g, cap, cur, rfl, h1, h.row h2, h3⟩
theorem Fr.turns {D : Nat → Prop} {a : Fa} {sz : Nat} {L : Nat → Int} {ps : List (Nat × List Int)} (hs : Fr D W a sz L ps) (h : Turns B W W') (h1 : a.lm < B) (h2 : a.om < B) : Fr D W' a sz L ps := by
  obtain ⟨e1, c1, l1⟩ := hs.la
  obtain ⟨e2, c2, l2, g2⟩ := hs.ov
  obtain ⟨vs, l3⟩ := hs.pc
  exact ⟨hs.st.turns h, ⟨e1, c1, l1.turns h h1⟩, ⟨e2, c2, l2.turns h h2, g2⟩, ⟨vs, l3.turns h⟩, hs.ne, hs.nd, fun i hi => Nat.lt_of_lt_of_le (hs.db i hi) h.size, hs.lz, hs.pb, hs.sb, hs.nb⟩
theorem Wk.turns {D D' : Nat → Prop} {w : World} {own own' : List Nat} (hs : Wk D w own W D' own') (h : Turns B W W') (hB : w.heap.size ≤ B) : Wk D w own W' D' own' :=
  ⟨hs.k.trans h.kp (fun i hi x => by omega), hs.o, hs.d, hs.e⟩
end
theorem Fr.keeps {D : Nat → Prop} {B : Nat} {W W' : World} {a : Fa} {sz : Nat} {L : Nat → Int} {ps : List (Nat × List Int)} (h : Fr D W a sz L ps) (k : Kp (fun i => i ∈ a.own) W W') (h1 : a.fb < B) (h2 : a.lm < B) (h3 : a.om < B) : KeepsFrom B W W' := by
  refine ⟨k.size, fun j o hB hj ho => (k.block j (Array.getElem?_eq_some_iff.1 hj).1 (fun hm => ?_)).trans hj⟩
  rcases (a.mem j).1 hm with e | e | e | e
  · omega
  · omega
  · omega
  · obtain ⟨vs, h4⟩ := h.pc
    rcases h4.row.2 with ⟨h5, _⟩ | ⟨g, cap, cur, h5, _, h6, _⟩
    · rw [h5] at e; cases e
    · rw [h5] at e
      have : g = j := by simpa [Value.ownBlock] using e
      subst this
      rw [h6] at hj
      cases hj
      cases ho
theorem KeepsFrom.kp {B : Nat} {W W' X : World} (h : KeepsFrom B W W') (k : Kp (fun _ => False) W' X) : KeepsFrom B W X := h.trans ⟨k.size, fun j _ _ hj _ => (k.block j (Array.getElem?_eq_some_iff.1 hj).1 (fun x => x)).trans hj⟩
theorem turns_own {B : Nat} {W W' : World} {row : Option Nat} (hg : W.grownBy W' row) (hr : ∀ r, row = some r → B ≤ r ∧ ∃ o : Obj, W.heap[r]? = some o ∧ o.isCells = false) : Turns B W W' := ⟨row, hg, hr⟩
end Go.Proofs.YtnccklbnncaeoaaGreat
