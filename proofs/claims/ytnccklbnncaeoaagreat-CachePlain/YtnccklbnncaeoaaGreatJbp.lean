import Derived.Test.YtnccklbnncaeoaaGreatJbm
import Derived.Test.YtnccklbnncaeoaaGreatJbg
import Derived.Test.YtnccklbnncaeoaaGreatJbo
/- cache: a use that brings in a page that nothing was known of; what a way of moves must do. -/
namespace Go.Proofs.YtnccklbnncaeoaaGreat
open Go.RowKit
set_option linter.unusedVariables false
set_option linter.unusedSimpArgs false
structure UNew (bits k : Nat) (G : Gc) (q : Gf) (b : Nat) (H : Gc) : Prop where
  nb : b ∉ G.B
  K : H.K = G.K ++ [b]
  B : H.B = b :: G.B
  L : H.L.Perm (b :: G.L)
  c : ∀ a ∈ G.B, H.c a = G.c a
  y : ∀ a ∈ G.B, H.y a = G.y a
  n : (H.c b).n = k
  di : (H.c b).di = false
  pe : (H.c b).pe = false
  yb : ∃ i, H.y b = some (i, ldz q bits k)
  W : H.W = G.W
  P : H.P = G.P
  t : H.t = G.t + 1
  n1 : H.n1 = G.n1
  n2 : H.n2 = G.n2 + 1
  n3 : H.n3 = G.n3
  n4 : H.n4 = G.n4
theorem use_new {S : ByteArray} {g bits room Q N : Nat} {G : Gc} {q : Gf} {ft : List (Int × Int)} {F : Nat → Prop} {w : World} (h : Cv S g bits room Q N G q ft F w) {s0 k1 k b : Nat} {H : Gc} {q1 : Gf} {ft1 : List (Int × Int)} (hu : UseG bits room s0 k1 k G q ft H q1 ft1 b) (hs0 : w.heap.size ≤ s0) (hg : nget G.c G.K k = none) (hr : G.L.length < room) :
    k1 = 0 ∧ q1 = q ∧ ft1 = ft ∧ UNew bits k G q b H := by
  have hlt : ∀ x ∈ G.B, x < w.heap.size := fun x hx => h.cm.lt (.inr (.inr (.inr (.inr (.inr ⟨x, hx, .inl rfl⟩)))))
  rcases hu with ⟨hk, _⟩ | ⟨hk, G1, hrm, s, G2, i, lv, L, hs, hi, hkn, hkp, hL, rfl⟩
  · unfold kget at hk
    rw [hg] at hk
    cases hk
  · rcases hrm with ⟨_, rfl, rfl, rfl, rfl⟩ | ⟨hn, _⟩
    · rcases hkn with ⟨hn, _⟩ | ⟨hn, wm, rm, h1, h2, h3, rfl⟩
      · change nget G1.c G1.K k = some b at hn
        rw [hg] at hn; cases hn
      · have hbB : b ∉ G1.B := fun e => by have := hlt b e; omega
        have hne : ∀ a ∈ G1.B, a ≠ b := fun a ha e => hbB (e ▸ ha)
        have hWb : G1.W b = [] := by
          cases e : G1.W b with
          | nil => rfl
          | cons y l => exact absurd (h.iv.kb b (h.iv.wk b y (by rw [e]; exact List.mem_cons_self)).1) hbB
        refine ⟨rfl, rfl, rfl, hbB, rfl, rfl, hL, fun a ha => ?_, fun a ha => ?_, ?_, ?_, ?_, ⟨i, ?_⟩, ?_, rfl, rfl, rfl, rfl, rfl, rfl⟩
        · show upd (upd (upd G1.c b _) b _) b _ a = _
          rw [upd_other _ _ (hne a ha), upd_other _ _ (hne a ha), upd_other _ _ (hne a ha)]
        · show upd (upd G1.y b _) b _ a = _
          rw [upd_other _ _ (hne a ha), upd_other _ _ (hne a ha)]
        · simp [gUse, gBring, gNew, upd_same, pc0]
        · simp [gUse, gBring, gNew, upd_same, pc0]
        · simp [gUse, gBring, gNew, upd_same, pc0]
        · simp [gUse, gBring, gNew, upd_same]
        · show upd G1.W b [] = G1.W
          rw [← hWb]; exact upd_self _ _
    · exact absurd hr hn
structure WNew (bits k : Nat) (G : Gc) (q : Gf) (b : Nat) (xs : List Int) (H : Gc) : Prop where
  nb : b ∉ G.B
  K : H.K = G.K ++ [b]
  B : H.B = b :: G.B
  L : H.L.Perm (b :: G.L)
  c : ∀ a ∈ G.B, H.c a = G.c a
  y : ∀ a ∈ G.B, H.y a = G.y a
  n : (H.c b).n = k
  di : (H.c b).di = true
  pe : (H.c b).pe = false
  yb : ∃ i, H.y b = some (i, splice (ldz q bits k) 0 xs)
  W : H.W = G.W
  P : H.P = G.P
  t : H.t = G.t + 1
  n1 : H.n1 = G.n1
  n2 : H.n2 = G.n2 + 1
  n3 : H.n3 = G.n3
  n4 : H.n4 = G.n4
theorem mayn_of {bits k : Nat} (h : k < 268435456 / 2 ^ bits) : mayn bits (k : Int) = true := by
  unfold mayn
  rw [Bool.and_eq_true]
  exact ⟨by simp, by simp only [decide_eq_true_eq]; omega⟩
theorem withn_of {bits a n : Nat} (h : a + n ≤ 2 ^ bits) : withn bits (a : Int) (n : Int) = true := by
  unfold withn
  rw [Bool.and_eq_true, Bool.and_eq_true]
  refine ⟨by simp, by simp, ?_⟩
  simp only [decide_eq_true_eq]
  omega
theorem cw_new {S : ByteArray} {g bits room Q N : Nat} {G : Gc} {q : Gf} {F : Nat → Prop} {w : World} (h : Cv S g bits room Q N G q [] F w) (k : Nat) (xs : List Int) (ao : Option Addr) (m cap : Nat) (hm : m = xs.length) (hx : xs ≠ []) (hxl : xs.length ≤ 2 ^ bits) (hk : k < 268435456 / 2 ^ bits) (hS : Src .u8 w ao xs) (hdis : ∀ r off, ao = some ⟨r, off, none⟩ → ¬ Fc Q G r ∧ ¬ F r) (ht : G.t < 1000000000000) (hN : N + mu G + 2 ≤ 9000) (hg : nget G.c G.K k = none) (hr : G.L.length < room) :
    Calls Tryz.prog 22 #[ptr Q, .int .i64 k, .int .i64 0, .slice ao m cap] w fun e w' => e = .returned (.int .i64 0) ∧ ∃ G' F' b, Cv S g bits room Q N G' q [] F' w' ∧ Cch Q G G' F F' w w' ∧ WNew bits k G q b xs G' := by
  have hp := pow_le bits h.bb
  have hm6 : m ≤ 4611686018427387904 := by rw [hm]; omega
  refine (cwrite_any h (k : Int) 0 xs ao m cap hm hm6 hS hdis (by decide) ht hN).mono ?_
  intro e w' hw
  have hma := mayn_of hk
  have hwi : withn bits (0 : Int) (xs.length : Int) = true := withn_of (a := 0) (by omega)
  cases hw using WrR.el with
  | bad h1 _ => rw [hma, hwi] at h1; cases h1
  | fail _ _ _ hz ho _ _ _ => exact absurd (ho.ftn rfl).1 hz
  | nil _ _ _ _ he _ _ => exact absurd he hx
  | ok a1 a2 hu hbL hy a6 hL hv hc =>
    rename_i k1 b i zs lv L H q1 ft1 F1
    rw [Int.toNat_natCast] at hu
    obtain ⟨rfl, rfl, rfl, u⟩ := use_new h hu (Nat.le_refl _) hg hr
    obtain ⟨j, hj⟩ := u.yb
    rw [hj] at hy
    cases hy
    have hne : ∀ a ∈ G.B, a ≠ b := fun a ha e => u.nb (e ▸ ha)
    have hcb := di_c H b true b
    refine ⟨rfl, _, F1, b, hv, hc, ⟨u.nb, u.K, u.B, hL.trans u.L, fun a ha => ?_, fun a ha => ?_, ?_, ?_, ?_, ⟨i, ?_⟩, u.W, u.P, u.t, u.n1, u.n2, u.n3, u.n4⟩⟩
    · show upd H.c b _ a = _
      rw [upd_other _ _ (hne a ha)]; exact u.c a ha
    · show upd H.y b _ a = _
      rw [upd_other _ _ (hne a ha)]; exact u.y a ha
    · show (upd H.c b _ b).n = k
      rw [hcb.1]; exact u.n
    · show (upd H.c b _ b).di = true
      rw [upd_same]
    · show (upd H.c b _ b).pe = false
      rw [hcb.2.1]; exact u.pe
    · show upd H.y b _ b = _
      rw [upd_same]
      rfl
/-- A page that waits for a dirty one: when it is written, the other one was, and a flush lies between. -/
theorem rc_wait {bits n b0 b1 : Nat} {X Y : Xt} (h : Rc bits n X Y) (hw : b1 ∈ X.G.W b0) (hd0 : (X.G.c b0).di = true) (hd1 : (X.G.c b1).di = true) : (Y.G.c b0).di = false → (Y.G.c b1).di = false ∧ 1 ≤ Y.G.n4 := by
  have key : (b1 ∈ Y.G.W b0 ∨ ((Y.G.c b1).di = false ∧ 1 ≤ Y.G.n4)) ∧ ((Y.G.c b0).di = true ∨ ((Y.G.c b1).di = false ∧ 1 ≤ Y.G.n4)) := by
    induction h using Rc.ind with
    | refl => exact ⟨.inl hw, .inl hd0⟩
    | step hr hm ih =>
      rename_i n X Y Z
      obtain ⟨i1, i2⟩ := ih hw hd0 hd1
      cases hm using Mve.el with
      | fl hk k =>
        rename_i G'
        have hl := k.les
        have h4 : G'.n4 = Y.G.n4 + 1 := by
          rcases k with ⟨h0, _⟩ | ⟨_, _, _, h4, _⟩
          · exact absurd rfl h0
          · exact h4
        have hdd : ∀ a, (G'.c a).di = (Y.G.c a).di := fun a => (hl.c a).2.2.1
        constructor
        · rcases i1 with i1 | ⟨i1, i3⟩
          · cases e : (Y.G.c b1).di with
            | true => exact .inl (hl.D b0 b1 i1 e)
            | false => exact .inr ⟨by show (G'.c b1).di = false; rw [hdd, e], by show 1 ≤ G'.n4; omega⟩
          · exact .inr ⟨by show (G'.c b1).di = false; rw [hdd, i1], by show 1 ≤ G'.n4; omega⟩
        · rcases i2 with i2 | ⟨i2, i3⟩
          · exact .inl (by show (G'.c b0).di = true; rw [hdd, i2])
          · exact .inr ⟨by show (G'.c b1).di = false; rw [hdd, i2], by show 1 ≤ G'.n4; omega⟩
      | wr hk hbL hd hW hyb k =>
        rename_i G' b i zs
        have h4 : G'.n4 = Y.G.n4 := k.n4
        have hfd : ∀ a, (Y.G.c a).di = false → (G'.c a).di = false := fun a ha => by
          rw [k.di a]
          split
          · rfl
          · exact ha
        have r1 : b1 ∈ G'.W b0 ∨ ((G'.c b1).di = false ∧ 1 ≤ G'.n4) := by
          rcases i1 with i1 | ⟨i1, i3⟩
          · exact .inl (by rw [k.W]; exact i1)
          · exact .inr ⟨hfd b1 i1, by omega⟩
        refine ⟨r1, ?_⟩
        by_cases e : b = b0
        · subst e
          rcases i1 with i1 | ⟨i1, i3⟩
          · rw [hW] at i1; cases i1
          · exact .inr ⟨hfd b1 i1, by show 1 ≤ G'.n4; omega⟩
        · rcases i2 with i2 | ⟨i2, i3⟩
          · refine .inl ?_
            show (G'.c b0).di = true
            rw [k.di b0, if_neg (fun x => e x.symm)]
            exact i2
          · exact .inr ⟨hfd b1 i2, by show 1 ≤ G'.n4; omega⟩
  intro h0
  rcases key.2 with h | h
  · rw [h0] at h; cases h
  · exact h
end Go.Proofs.YtnccklbnncaeoaaGreat
/- The statements' works: two pages, one waits for the other one. -/
namespace Go.Proofs.YtnccklbnncaeoaaGreat
open Go.RowKit
set_option linter.unusedVariables false
set_option linter.unusedSimpArgs false
/-- Two dirty pages, 0 and 1, nobody waits. -/
structure Two (G : Gc) (b0 b1 : Nat) : Prop where
  ne : b1 ≠ b0
  g0 : nget G.c G.K 0 = some b0
  g1 : nget G.c G.K 1 = some b1
  L : G.L.Perm [b1, b0]
  d0 : (G.c b0).di = true
  d1 : (G.c b1).di = true
  n0 : (G.c b0).n = 0
  n1 : (G.c b1).n = 1
  W : ∀ x, G.W x = []
  y0 : ∃ i zs, G.y b0 = some (i, zs)
  y1 : ∃ i zs, G.y b1 = some (i, zs) ∧ zs.getD 0 0 = 2
  c1 : G.n1 = 0
  c2 : G.n2 = 2
  c3 : G.n3 = 0
  c4 : G.n4 = 0
  t : G.t = 2
section
variable {S : ByteArray} {g Q N : Nat} {G : Gc} {q : Gf} {F : Nat → Prop} {w : World}
theorem two_of {m : Nat} {G1 G2 : Gc} {q1 q2 : Gf} {b0 b1 : Nat} (h : Cv S g 9 2 Q N G2 q [] F w) (h1 : WNew 9 0 (g0 m) q1 b0 [1] G1) (h2 : WNew 9 1 G1 q2 b1 [2] G2) : Two G2 b0 b1 := by
  have hb0 : b0 ∈ G1.B := by rw [h1.B]; exact List.mem_cons_self
  have hne : b1 ≠ b0 := fun e => h2.nb (e ▸ hb0)
  have hc0 := h2.c b0 hb0
  have hn := h.cm.ks.nin
  have k0 : b0 ∈ G2.K := by rw [h2.K, h1.K]; simp
  have k1 : b1 ∈ G2.K := by rw [h2.K]; simp
  have n0 : (G2.c b0).n = 0 := by rw [hc0]; exact h1.n
  refine ⟨hne, by rw [← n0]; exact nget_of hn k0, by rw [← h2.n]; exact nget_of hn k1, ?_, by rw [hc0]; exact h1.di, h2.di, n0, h2.n, fun x => by rw [h2.W, h1.W]; rfl, ?_, ?_, by rw [h2.n1, h1.n1]; rfl, by rw [h2.n2, h1.n2]; rfl, by rw [h2.n3, h1.n3]; rfl, by rw [h2.n4, h1.n4]; rfl, by rw [h2.t, h1.t]; rfl⟩
  · refine h2.L.trans (List.Perm.cons b1 (h1.L.trans ?_))
    exact List.Perm.refl _
  · obtain ⟨i, hi⟩ := h1.yb
    exact ⟨i, _, by rw [h2.y b0 hb0]; exact hi⟩
  · obtain ⟨i, hi⟩ := h2.yb
    refine ⟨i, _, hi, ?_⟩
    have hp : 0 < 2 ^ 9 := by decide
    rw [getD_splice _ _ _ _ (by rw [ldz_len]; simp)]
    simp
theorem Two.Wg {b0 b1 : Nat} (h : Two G b0 b1) : (gAf G b0 b1).W b0 = [b1] ∧ (gAf G b0 b1).W b1 = [] := by
  constructor
  · show upd G.W b0 (nput G.c (G.W b0) b1) b0 = _
    rw [upd_same, h.W b0]
    unfold nput nget
    simp
  · show upd G.W b0 (nput G.c (G.W b0) b1) b1 = _
    rw [upd_other _ _ h.ne, h.W b1]
theorem Two.mu {b0 b1 : Nat} (h : Two G b0 b1) : dn (gAf G b0 b1) = 2 ∧ YtnccklbnncaeoaaGreat.mu (gAf G b0 b1) = 3 := by
  obtain ⟨w0, w1⟩ := h.Wg
  have hd : dn (gAf G b0 b1) = 2 := by
    unfold dn
    show G.L.countP (fun b => (G.c b).di) = 2
    rw [h.L.countP_eq]
    simp [h.d0, h.d1]
  have hw : dw (gAf G b0 b1) = 1 := by
    unfold dw
    show G.L.countP (fun b => (G.c b).di && decide ((gAf G b0 b1).W b ≠ [])) = 1
    rw [h.L.countP_eq]
    simp [h.d0, h.d1, w0, w1]
  refine ⟨hd, ?_⟩
  unfold YtnccklbnncaeoaaGreat.mu
  omega
/-- What Back of the one that waits leaves. -/
theorem two_back {b0 b1 k : Nat} {G4 : Gc} {q4 : Gf} (h : Two G b0 b1) (hr : Rc 9 k ⟨gAf G b0 b1, q, []⟩ ⟨G4, q4, []⟩) (hnd : G.L.Nodup) (hnin : Nin G.c G.L) (hy : ∀ b ∈ G.L, ∀ i zs, G.y b = some (i, zs) → zs.length = 2 ^ 9) (hz : Zb q) (hk : k + YtnccklbnncaeoaaGreat.mu G4 ≤ YtnccklbnncaeoaaGreat.mu (gAf G b0 b1)) (hd : (G4.c b0).di = false) :
    G4.n1 = 0 ∧ G4.n2 = 2 ∧ G4.n3 = 2 ∧ G4.n4 = 1 ∧ cont q4 512 = 2 ∧ q.sz ≤ q4.sz := by
  obtain ⟨m1, m2⟩ := h.mu
  obtain ⟨w0, w1⟩ := h.Wg
  obtain ⟨d1, f1⟩ := rc_wait hr (b0 := b0) (b1 := b1) (by show b1 ∈ (gAf G b0 b1).W b0; rw [w0]; simp) h.d0 h.d1 hd
  change (G4.c b1).di = false at d1
  change 1 ≤ G4.n4 at f1
  have hst := hr.stb
  have hL : G4.L.Perm [b1, b0] := hst.L.trans h.L
  have hdn : dn G4 = 0 := by
    unfold dn
    rw [hL.countP_eq]
    simp [d1, hd]
  have hc := hr.cnt
  have hdd := hr.dn hnd
  change G4.n3 + G4.n4 = G.n3 + G.n4 + k at hc
  change G4.n3 + dn G4 = G.n3 + dn (gAf G b0 b1) at hdd
  have c3 := h.c3
  have c4 := h.c4
  have hfc := rc_cl hr rfl hnin hy hz (fun b hb hbd => by
    have hb' : b ∈ [b1, b0] := h.L.mem_iff.1 hb
    have hbd' : (G.c b).di = false := hbd
    rcases List.mem_cons.1 hb' with e | e
    · rw [e, h.d1] at hbd'; cases hbd'
    · rw [List.mem_singleton.1 e, h.d0] at hbd'; cases hbd')
  have e1 : G4.n1 = G.n1 := hst.n1
  have e2 : G4.n2 = G.n2 := hst.n2
  refine ⟨by rw [e1, h.c1], by rw [e2, h.c2], by omega, by omega, ?_, hfc.sz⟩
  obtain ⟨i, zs, hyi, h2⟩ := h.y1
  have hyy : G4.y b1 = some (i, zs) := by
    have := hst.y
    change G4.y = G.y at this
    rw [this]; exact hyi
  have := hfc.cl b1 (hL.mem_iff.2 (by simp)) d1 i zs hyy 0 (by decide)
  rw [h2] at this
  have hn1 : (G4.c b1).n = 1 := ((hst.c b1).1).trans h.n1
  change 2 = cont q4 ((G4.c b1).n * 2 ^ 9 + 0) at this
  rw [hn1] at this
  exact this.symm
theorem mu_len (G : Gc) : mu G ≤ 2 * G.L.length := by
  have h1 := mu_le G
  have h2 : dn G ≤ G.L.length := List.countP_le_length
  omega
theorem WNew.len {bits k : Nat} {G H : Gc} {q : Gf} {b : Nat} {xs : List Int} (h : WNew bits k G q b xs H) : H.L.length = G.L.length + 1 := by
  rw [h.L.length_eq]; rfl
theorem WNew.ng {bits k : Nat} {G H : Gc} {q : Gf} {b : Nat} {xs : List Int} (h : WNew bits k G q b xs H) (hkb : ∀ a ∈ G.K, a ∈ G.B) {j : Nat} (hg : nget G.c G.K j = none) (hj : j ≠ k) : nget H.c H.K j = none := by
  unfold nget
  rw [List.find?_eq_none]
  intro a ha
  rw [h.K] at ha
  simp only [decide_eq_true_eq]
  rcases List.mem_append.1 ha with ha | ha
  · rw [h.c a (hkb a ha)]
    exact nget_none hg a ha
  · rw [List.mem_singleton.1 ha, h.n]
    exact fun e => hj e.symm
theorem two_after1 {b0 b1 : Nat} {ft : List (Int × Int)} {e : Ending} {w' : World} (h : Two G b0 b1) (ha : AfR S g 9 2 Q N G q ft F w 0 1 e w') : e = .returned (.int .i64 0) ∧ Cv S g 9 2 Q N (gAf G b0 b1) q ft F w' ∧ Cch Q G (gAf G b0 b1) F F w w' := by
  have hm0 : mayn 9 0 = true := by decide
  have hm1 : mayn 9 1 = true := by decide
  have hno : ∀ x y, ¬ Rch G.W x y := fun x y hr => by
    obtain ⟨c, hc, _⟩ := hr.last
    rw [h.W] at hc; cases hc
  cases ha using AfR.el with
  | arg h1 _ => rw [hm0, hm1] at h1; cases h1
  | same _ _ h1 _ => cases h1
  | nil _ _ _ h1 _ =>
    change nget G.c G.K 1 = none at h1
    rw [h.g1] at h1; cases h1
  | loop _ _ _ _ _ h1 _ => exact absurd h1 (hno _ _)
  | idle _ _ _ h1 _ h2 _ =>
    change nget G.c G.K 1 = some _ at h1
    rw [h.g1] at h1; cases h1
    rw [h.d1] at h2; cases h2
  | ok a1 a2 a3 h1 h2 h3 hs hg hv hc =>
    change nget G.c G.K 1 = some _ at h1
    rw [h.g1] at h1; cases h1
    rcases hg with ⟨h4, rfl⟩ | ⟨h4, _⟩
    · change nget _ _ 0 = some _ at h4
      rw [h.g0] at h4; cases h4
      exact ⟨rfl, hv, hc⟩
    · change nget _ _ 0 = none at h4
      rw [h.g0] at h4; cases h4
theorem two_after2 {b0 b1 : Nat} {ft : List (Int × Int)} {e : Ending} {w' : World} (h : Two G b0 b1) (ha : AfR S g 9 2 Q N (gAf G b0 b1) q ft F w 1 0 e w') : e = .returned (.int .i64 240) ∧ Kp (fun _ => False) w w' := by
  have hm0 : mayn 9 0 = true := by decide
  have hm1 : mayn 9 1 = true := by decide
  have hr : Rch (gAf G b0 b1).W b0 b1 := .one (by rw [h.Wg.1]; simp)
  have g0' : nget (gAf G b0 b1).c (gAf G b0 b1).K 0 = some b0 := h.g0
  have g1' : nget (gAf G b0 b1).c (gAf G b0 b1).K 1 = some b1 := h.g1
  cases ha using AfR.el with
  | arg h1 _ => rw [hm0, hm1] at h1; cases h1
  | same _ _ h1 _ => cases h1
  | nil _ _ _ h1 _ =>
    change nget _ _ 0 = none at h1
    rw [g0'] at h1; cases h1
  | loop _ _ _ _ _ h1 k => exact ⟨rfl, k⟩
  | idle _ _ _ h1 h2 _ _ =>
    change nget _ _ 0 = some _ at h1
    rw [g0'] at h1; cases h1
    exact absurd hr (h2 b1 g1')
  | ok a1 a2 a3 h1 h2 h3 hs hg hv hc =>
    change nget _ _ 0 = some _ at h1
    rw [g0'] at h1; cases h1
    exact absurd hr (h2 b1 g1')
theorem Two.kg {b0 b1 : Nat} (h : Two G b0 b1) : kget (gAf G b0 b1) 0 = some b0 := by
  unfold kget
  have g0' : nget (gAf G b0 b1).c (gAf G b0 b1).K 0 = some b0 := h.g0
  rw [g0']
  dsimp only
  obtain ⟨i, zs, hy⟩ := h.y0
  have hy' : (gAf G b0 b1).y b0 = some (i, zs) := hy
  rw [hy']
  rfl
end
end Go.Proofs.YtnccklbnncaeoaaGreat
