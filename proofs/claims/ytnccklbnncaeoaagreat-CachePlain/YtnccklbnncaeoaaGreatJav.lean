import Derived.Test.YtnccklbnncaeoaaGreatJat
import Derived.Test.YtnccklbnncaeoaaGreatJau
/- cache: what always holds of what is known; plain mathematics. -/
namespace Go.Proofs.YtnccklbnncaeoaaGreat
open Go.RowKit
set_option linter.unusedVariables false
set_option linter.unusedSimpArgs false
/-- What holds at all times. -/
structure Iv (G : Gc) : Prop where
  wk : ∀ b a, a ∈ G.W b → b ∈ G.K ∧ a ∈ G.K
  wr : ∀ b a, a ∈ G.W b ↔ b ∈ G.R a
  rk : Ranked G.W
  kb : ∀ b ∈ G.K, b ∈ G.B
  lk : ∀ b, b ∈ G.L ↔ b ∈ G.B ∧ G.y b ≠ none
  ll : ∀ b ∈ G.L, b ∈ G.K
  pk : ∀ b ∈ G.B, (G.c b).pe = true → b ∈ G.K ∧ b ∈ G.P
  dk : ∀ b ∈ G.B, (G.c b).di = true → b ∈ G.L
  hp : Hpd G.c G.L
/-- Whoever is waited for, but for b, is dirty or pending. -/
def Opx (G : Gc) (b : Nat) : Prop := ∀ x a, a ∈ G.W x → a ≠ b → (G.c a).di = true ∨ (G.c a).pe = true
def Op (G : Gc) : Prop := ∀ x a, a ∈ G.W x → (G.c a).di = true ∨ (G.c a).pe = true
/-- Some wait no more for some that are not dirty. -/
structure Les (G G' : Gc) : Prop where
  kl : G'.kl = G.kl
  pm : G'.pm = G.pm
  lv : G'.lv = G.lv
  y : G'.y = G.y
  B : G'.B = G.B
  L : G'.L = G.L
  t : G'.t = G.t
  n1 : G'.n1 = G.n1
  n2 : G'.n2 = G.n2
  n3 : G'.n3 = G.n3
  c : ∀ b, (G'.c b).n = (G.c b).n ∧ (G'.c b).bv = (G.c b).bv ∧ (G'.c b).di = (G.c b).di ∧ (G'.c b).tk = (G.c b).tk ∧ (G'.c b).wm = (G.c b).wm ∧ (G'.c b).rm = (G.c b).rm
  K : ∀ b, b ∈ G'.K → b ∈ G.K
  W : ∀ b a, a ∈ G'.W b → a ∈ G.W b
  D : ∀ b a, a ∈ G.W b → (G.c a).di = true → a ∈ G'.W b
theorem Les.refl (G : Gc) : Les G G := ⟨rfl, rfl, rfl, rfl, rfl, rfl, rfl, rfl, rfl, rfl, fun _ => ⟨rfl, rfl, rfl, rfl, rfl, rfl⟩, fun _ h => h, fun _ _ h => h, fun _ _ h _ => h⟩
theorem Les.trans {G H I : Gc} (h : Les G H) (k : Les H I) : Les G I :=
  ⟨k.kl.trans h.kl, k.pm.trans h.pm, k.lv.trans h.lv, k.y.trans h.y, k.B.trans h.B, k.L.trans h.L, k.t.trans h.t, k.n1.trans h.n1, k.n2.trans h.n2, k.n3.trans h.n3,
   fun b => ⟨(k.c b).1.trans (h.c b).1, (k.c b).2.1.trans (h.c b).2.1, (k.c b).2.2.1.trans (h.c b).2.2.1, (k.c b).2.2.2.1.trans (h.c b).2.2.2.1, (k.c b).2.2.2.2.1.trans (h.c b).2.2.2.2.1, (k.c b).2.2.2.2.2.trans (h.c b).2.2.2.2.2⟩,
   fun b hb => h.K b (k.K b hb), fun b a ha => h.W b a (k.W b a ha), fun b a ha hd => k.D b a (h.D b a ha hd) (by rw [(h.c a).2.2.1]; exact hd)⟩
/-- One that is nothing, and for whom nobody waits, is let go of. -/
theorem Iv.forget {G : Gc} (h : Iv G) (b : Nat) (hR : dead G b → G.R b = []) : Iv (gForget G b) := by
  unfold gForget
  by_cases hd : dead G b
  · rw [if_pos hd]
    have hr := hR hd
    obtain ⟨h1, h2, h3⟩ := hd
    have mem : ∀ a, a ∈ G.K.filter (fun a => decide (a ≠ b)) ↔ a ∈ G.K ∧ a ≠ b := fun a => by simp
    refine ⟨fun x a ha => ?_, h.wr, h.rk, fun a ha => h.kb a ((mem a).1 ha).1, h.lk, fun a ha => ?_, fun a ha hp => ?_, h.dk, h.hp⟩
    · have := h.wk x a ha
      refine ⟨(mem x).2 ⟨this.1, ?_⟩, (mem a).2 ⟨this.2, ?_⟩⟩
      · rintro rfl
        change a ∈ G.W x at ha
        rw [h3] at ha; cases ha
      · rintro rfl
        have := (h.wr x a).1 ha
        rw [hr] at this; cases this
    · refine (mem a).2 ⟨h.ll a ha, ?_⟩
      rintro rfl
      exact ((h.lk a).1 ha).2 h1
    · obtain ⟨k1, k2⟩ := h.pk a ha hp
      refine ⟨(mem a).2 ⟨k1, ?_⟩, k2⟩
      rintro rfl
      change (G.c a).pe = true at hp
      rw [h2] at hp; cases hp
  · rw [if_neg hd]; exact h
theorem les_forget (G : Gc) (b : Nat) : Les G (gForget G b) := by
  unfold gForget
  split
  · exact ⟨rfl, rfl, rfl, rfl, rfl, rfl, rfl, rfl, rfl, rfl, fun _ => ⟨rfl, rfl, rfl, rfl, rfl, rfl⟩, fun a ha => (List.mem_filter.1 ha).1, fun _ _ h => h, fun _ _ h _ => h⟩
  · exact Les.refl G
theorem forget_wpR (G : Gc) (b : Nat) : (gForget G b).W = G.W ∧ (gForget G b).R = G.R ∧ (gForget G b).c = G.c ∧ (gForget G b).P = G.P ∧ (gForget G b).pv = G.pv ∧ (gForget G b).n4 = G.n4 := by
  unfold gForget
  split <;> exact ⟨rfl, rfl, rfl, rfl, rfl, rfl⟩
theorem settle_wpR (G : Gc) (b : Nat) : (gSettle G b).c = G.c ∧ (gSettle G b).P = G.P ∧ (gSettle G b).pv = G.pv ∧ (gSettle G b).n4 = G.n4 := by
  have := forget_wpR { gS G b (G.R b) with R := upd G.R b [] } b
  exact ⟨this.2.2.1, this.2.2.2.1, this.2.2.2.2.1, this.2.2.2.2.2⟩
theorem set_wpR (G : Gc) (b : Nat) : (gSet G b).c = G.c ∧ (gSet G b).P = G.P ∧ (gSet G b).pv = G.pv ∧ (gSet G b).n4 = G.n4 := by
  unfold gSet
  split
  · have := forget_wpR G b
    exact ⟨this.2.2.1, this.2.2.2.1, this.2.2.2.2.1, this.2.2.2.2.2⟩
  · exact settle_wpR G b
theorem gS_W {G : Gc} (h : Iv G) (b x a : Nat) : a ∈ (gS G b (G.R b)).W x ↔ a ∈ G.W x ∧ a ≠ b := by
  unfold gS
  dsimp only
  split
  · simp
  · rename_i hx
    constructor
    · intro ha
      refine ⟨ha, ?_⟩
      rintro rfl
      exact hx ((h.wr x a).1 ha)
    · exact fun ha => ha.1
theorem Iv.settle {G : Gc} (h : Iv G) (b : Nat) (hd : (G.c b).di = false) (hpe : (G.c b).pe = false) (ho : Opx G b) : Iv (gSettle G b) ∧ Op (gSettle G b) ∧ Les G (gSettle G b) := by
  have hdz : ∀ a, dz G b a = true ↔ (G.y a = none ∧ (G.c a).pe = false ∧ (G.W a).filter (fun x => decide (x ≠ b)) = []) := fun a => by unfold dz; simp
  have hKm : ∀ a, a ∈ (gS G b (G.R b)).K ↔ a ∈ G.K ∧ ¬ (a ∈ G.R b ∧ dz G b a = true) := fun a => by
    unfold gS
    dsimp only
    rw [List.mem_filter]
    by_cases h1 : a ∈ G.R b <;> cases h2 : dz G b a <;> simp [h1]
  have hI : Iv { gS G b (G.R b) with R := upd G.R b [] } := by
    refine ⟨fun x a ha => ?_, fun x a => ?_, h.rk.sub (fun x a ha => ((gS_W h b x a).1 ha).1), fun a ha => h.kb a ((hKm a).1 ha).1, h.lk, fun a ha => ?_, fun a ha hp => ?_, h.dk, h.hp⟩
    · have ha2 := (gS_W h b x a).1 ha
      have hk := h.wk x a ha2.1
      refine ⟨(hKm x).2 ⟨hk.1, ?_⟩, (hKm a).2 ⟨hk.2, ?_⟩⟩
      · rintro ⟨_, h2⟩
        have h3 := ((hdz x).1 h2).2.2
        have : a ∈ (G.W x).filter (fun x => decide (x ≠ b)) := by simp [ha2.1, ha2.2]
        rw [h3] at this; cases this
      · rintro ⟨_, h2⟩
        have h3 := (hdz a).1 h2
        rcases ho x a ha2.1 ha2.2 with h4 | h4
        · exact ((h.lk a).1 (h.dk a (h.kb a hk.2) h4)).2 h3.1
        · rw [h3.2.1] at h4; cases h4
    · show a ∈ (gS G b (G.R b)).W x ↔ x ∈ upd G.R b [] a
      rw [gS_W h b x a]
      unfold upd
      by_cases e : a = b
      · subst e; simp
      · rw [if_neg e, ← h.wr x a]
        simp [e]
    · refine (hKm a).2 ⟨h.ll a ha, ?_⟩
      rintro ⟨_, h2⟩
      exact ((h.lk a).1 ha).2 ((hdz a).1 h2).1
    · obtain ⟨k1, k2⟩ := h.pk a ha hp
      refine ⟨(hKm a).2 ⟨k1, ?_⟩, k2⟩
      rintro ⟨_, h2⟩
      have := ((hdz a).1 h2).2.1
      change (G.c a).pe = true at hp
      rw [this] at hp; cases hp
  have hw := forget_wpR { gS G b (G.R b) with R := upd G.R b [] } b
  refine ⟨hI.forget b (fun _ => upd_same _ _ _), fun x a ha => ?_, Les.trans (H := { gS G b (G.R b) with R := upd G.R b [] }) ⟨rfl, rfl, rfl, rfl, rfl, rfl, rfl, rfl, rfl, rfl, fun _ => ⟨rfl, rfl, rfl, rfl, rfl, rfl⟩, fun a ha => ((hKm a).1 ha).1, fun x a ha => ((gS_W h b x a).1 ha).1, fun x a ha hda => (gS_W h b x a).2 ⟨ha, fun e => by rw [e, hd] at hda; cases hda⟩⟩ (les_forget _ b)⟩
  unfold gSettle at ha ⊢
  rw [hw.1] at ha
  rw [hw.2.2.1]
  have := (gS_W h b x a).1 ha
  exact ho x a this.1 this.2
theorem Iv.set {G : Gc} (h : Iv G) (b : Nat) (hb : b ∈ G.B) (ho : Opx G b) : Iv (gSet G b) ∧ Op (gSet G b) ∧ Les G (gSet G b) := by
  unfold gSet
  by_cases hu : ((G.c b).di || (G.c b).pe) = true
  · rw [if_pos hu]
    have hnd : ¬ dead G b := by
      rintro ⟨h1, h2, h3⟩
      rw [h2, Bool.or_false] at hu
      exact ((h.lk b).1 (h.dk b hb hu)).2 h1
    have e : gForget G b = G := if_neg hnd
    rw [e]
    refine ⟨h, fun x a ha => ?_, Les.refl G⟩
    by_cases e1 : a = b
    · subst e1
      simpa using hu
    · exact ho x a ha e1
  · rw [if_neg hu]
    simp only [Bool.not_eq_true, Bool.or_eq_false_iff] at hu
    exact h.settle b hu.1 hu.2 ho
theorem Op.x {G : Gc} (h : Op G) (b : Nat) : Opx G b := fun x a ha _ => h x a ha
/-- What settle asks. -/
theorem Iv.rset {G : Gc} (h : Iv G) (b : Nat) : ∀ a ∈ G.R b, a ∈ G.K ∧ a ≠ b ∧ ∀ x ∈ G.W a, x ∈ G.K := fun a ha => by
  have h1 := (h.wr a b).2 ha
  refine ⟨(h.wk a b h1).1, ?_, fun x hx => (h.wk a x hx).2⟩
  rintro rfl
  exact h.rk.irr a (.one h1)
end Go.Proofs.YtnccklbnncaeoaaGreat
