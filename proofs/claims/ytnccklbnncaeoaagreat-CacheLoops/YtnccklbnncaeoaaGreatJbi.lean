import Derived.Test.YtnccklbnncaeoaaGreatJbh
import Derived.Test.YtnccklbnncaeoaaGreatJbb
import Derived.Test.YtnccklbnncaeoaaGreatJbf
/- cache: a page is known; a page waits for another one. -/
namespace Go.Proofs.YtnccklbnncaeoaaGreat
open Go.RowKit
set_option linter.unusedVariables false
set_option linter.unusedSimpArgs false
/-- p waits for o. -/
def gAf (G : Gc) (p o : Nat) : Gc := { G with W := upd G.W p (nput G.c (G.W p) o), R := upd G.R o (nput G.c (G.R o) p) }
theorem nput_mem {c : Nat → Pc} {L : List Nat} {b : Nat} (h : ∀ a ∈ L, (c a).n = (c b).n → a = b) (x : Nat) : x ∈ nput c L b ↔ x ∈ L ∨ x = b := by
  unfold nput
  cases e : nget c L (c b).n with
  | none => simp
  | some a =>
    obtain ⟨h1, h2⟩ := nget_mem e
    have := h a h1 h2
    subst this
    simp only [reduceCtorEq, if_false]
    constructor
    · exact .inl
    · rintro (h3 | rfl)
      · exact h3
      · exact h1
section
variable {S : ByteArray} {g bits room Q N : Nat} {G G2 : Gc} {q : Gf} {ft : List (Int × Int)} {F : Nat → Prop} {w : World}
/-- A page is known now. -/
theorem Cv.kn {w' : World} {s k b : Nat} (h : Cv S g bits room Q N G q ft F w) (hk : k < 268435456 / 2 ^ bits) (hs : w.heap.size ≤ s) (hg : KnG s G k b G2) (hc : Cm S g bits room Q G2 w') (hkp : Kp (fun i => i = G.pm) w w') : Cv S g bits room Q N G2 q ft F w' ∧ Cch Q G G2 F F w w' ∧ b ∈ G2.K ∧ (G2.c b).n = k := by
  have hkk : Kp (Fc Q G) w w' := hkp.mono (fun i _ e => .inr (.inr (.inl e)))
  rcases hg with ⟨hn, rfl⟩ | ⟨hn, wm, rm, h1, h2, h3, h4⟩
  · exact ⟨⟨hc, h.sw.kp hkk (fun i hi hf => h.ap i hf hi), h.ap, h.iv, h.op, h.pp, h.pn, h.nn, h.tt, h.tk, h.nb, h.yl, h.lr, h.bb, h.rr⟩, ⟨hkk.mono (fun i _ e => .inl e), fun i hi => .inl hi, fun i hi => .inl hi⟩, (nget_mem hn).1, (nget_mem hn).2⟩
  · have hlt : ∀ a ∈ G.B, a < w.heap.size := fun a ha => h.cm.lt (.inr (.inr (.inr (.inr (.inr ⟨a, ha, .inl rfl⟩)))))
    have hp := KnG.of hlt h.iv h.op (s := s) (k := k) (b := b) (G2 := G2) hs (fun a ha => nget_none hn a (h.iv.ll a ha)) (.inr ⟨hn, wm, rm, h1, h2, h3, h4⟩)
    have hfc : ∀ j, Fc Q G2 j → Fc Q G j ∨ w.heap.size ≤ j := fun j hj => (fc_kn hp hj).imp id (fun e => Nat.le_trans hs e)
    refine ⟨⟨hc, h.sw.kp hkk (fun i hi hf => h.ap i hf hi), fun j hj hf => ?_, hp.iv, hp.op, fun a ha => ?_, by rw [hp.P]; exact h.pn, by rw [hp.n3, hp.n4]; exact h.nn, by rw [hp.n1, hp.n2, hp.t]; exact h.tt, fun a ha => ?_, fun a ha => ?_, fun a ha j zs e => ?_, by rw [hp.L]; exact h.lr, h.bb, h.rr⟩, ⟨hkk.mono (fun i _ e => .inl e), hfc, fun i hi => .inl hi⟩, hp.bK, hp.n⟩
    · rcases hfc j hj with e | e
      · exact h.ap j e hf
      · have := h.sw.lt hf; omega
    · rw [hp.P] at ha
      rw [hp.c a (h.cm.pb a ha)]
      exact h.pp a ha
    · rw [hp.t]
      by_cases hB : a ∈ G.B
      · rw [hp.c a hB]; exact h.tk a hB
      · have hab := (hp.B a ha).resolve_left hB
        subst hab
        rw [(hp.nw hB).2.2.2.2]; omega
    · by_cases hB : a ∈ G.B
      · rw [hp.c a hB]; exact h.nb a hB
      · have hab := (hp.B a ha).resolve_left hB
        subst hab
        rw [hp.n]; exact hk
    · by_cases hB : a ∈ G.B
      · rw [hp.ya a hB] at e; exact h.yl a hB j zs e
      · have hab := (hp.B a ha).resolve_left hB
        subst hab
        rw [hp.y] at e; cases e
set_option maxHeartbeats 4000000 in
set_option maxRecDepth 100000 in
theorem wait_any (h : Cm S g bits room Q G w) (p o : Nat) (hp : p ∈ G.B) (ho : o ∈ G.B) (h1 : ∀ a ∈ G.W p, (G.c a).n = (G.c o).n → a = o) (h2 : ∀ a ∈ G.R o, (G.c a).n = (G.c p).n → a = p) :
    Calls Tryz.prog 69 #[ptr p, ptr o] w fun e w' => e = .returned (.tuple #[]) ∧ Cm S g bits room Q (gAf G p o) w' ∧ Kp (fun i => i = (G.c p).wm ∨ i = (G.c o).rm) w w' := by
  have kd : ∀ W : World, Kp (fun _ => False) W W.drew := fun W => (Kp.refl (fun _ => False) W).drew
  obtain ⟨s1, hs1⟩ := (h.pg p hp).wt
  obtain ⟨s2, hs2⟩ := (h.pg o ho).wt
  have y1 := St.cell hs1 6
  have y2 := St.cell hs2 0
  simp [Pc.cs] at y1 y2
  obtain ⟨o1, r1, m1, k1⟩ := ((h.pg p hp).ws.kp (kd w) (fun h => h)).put o h1
  have c1 := (h.kp0 (kd w)).waits hp m1 k1
  have K1 : Hid (Kp (fun i => i = (G.c p).wm) w (w.drew.putObj (G.c p).wm o1)) := ((kd w).mono (fun _ _ e => e.elim)).trans k1 (fun _ _ e => e)
  obtain ⟨W1, hW1⟩ : ∃ W1, w.drew.putObj (G.c p).wm o1 = W1 := ⟨_, rfl⟩
  rw [hW1] at r1 c1 K1
  obtain ⟨s3, hs3⟩ := (c1.pg o ho).wt
  obtain ⟨s4, hs4⟩ := (c1.pg p hp).wt
  have y3 := St.cell hs3 7
  have y4 := St.cell hs4 0
  simp [Pc.cs] at y3 y4
  change W1.cell? _ = some (.map (some (G.c o).rm)) at y3
  change W1.cell? _ = some (.int .i64 ((G.c p).n : Int)) at y4
  obtain ⟨o2, r2, m2, k2⟩ := ((c1.pg o ho).rs.kp (kd W1) (fun h => h)).put p h2
  have HC2 : Hid (Cm S g bits room Q (gAf G p o) (W1.drew.putObj (G.c o).rm o2)) := (c1.kp0 (kd W1)).waiters ho m2 k2
  have K2 : Hid (Kp (fun i => i = (G.c p).wm ∨ i = (G.c o).rm) w (W1.drew.putObj (G.c o).rm o2)) := ((K1.out.mono (fun _ _ e => .inl e)).trans ((kd W1).mono (G := fun i => i = (G.c p).wm ∨ i = (G.c o).rm) (fun _ _ e => e.elim)) (fun _ _ e => e)).trans k2 (fun _ _ e => .inr e)
  change (Instr.mapUpdate 106 (.map (some (G.c o).rm)) (.int .i64 (G.c p).n) (ptr p)).run Tryz.prog W1.drew = _ at r2
  clear h h1 h2 hp ho hs1 hs2 m1 k1 c1 hs3 hs4 m2 k2 kd K1
  unfold ptr at *
  go_enter Tryz.func69, Tryz.ntmps69
  go_wp2_with fail
  go_region
  all_goals (try go_wp2_with (first | (simp only [hW1])))
  go_region
  all_goals (try go_wp2_with fail)
  all_goals go_end0
  all_goals exact ⟨rfl, HC2.out, K2.out⟩
/-- A page waits for another one: all that holds. -/
theorem Cv.af (h : Cv S g bits room Q N G q ft F w) {p o : Nat} (hp : p ∈ G.K) (ho : o ∈ G.K) (hpo : o ≠ p) (hr : ¬ Rch G.W o p) (hu : ((G.c o).di || (G.c o).pe) = true) {w' : World} (hc : Cm S g bits room Q (gAf G p o) w') (hk : Kp (fun i => i = (G.c p).wm ∨ i = (G.c o).rm) w w') : Cv S g bits room Q N (gAf G p o) q ft F w' ∧ Cch Q G (gAf G p o) F F w w' := by
  have u1 : ∀ a ∈ G.W p, (G.c a).n = (G.c o).n → a = o := fun a ha e => h.cm.ks.nin a (h.iv.wk p a ha).2 o ho e
  have u2 : ∀ a ∈ G.R o, (G.c a).n = (G.c p).n → a = p := fun a ha e => h.cm.ks.nin a (h.iv.wk a o ((h.iv.wr a o).2 ha)).1 p hp e
  have hW : ∀ x a, a ∈ (gAf G p o).W x ↔ a ∈ G.W x ∨ (x = p ∧ a = o) := fun x a => by
    show a ∈ upd G.W p (nput G.c (G.W p) o) x ↔ _
    unfold upd
    split
    · rename_i e
      rw [nput_mem u1, e]
      simp
    · rename_i e
      simp [e]
  have hR : ∀ x a, x ∈ (gAf G p o).R a ↔ x ∈ G.R a ∨ (x = p ∧ a = o) := fun x a => by
    show x ∈ upd G.R o (nput G.c (G.R o) p) a ↔ _
    unfold upd
    split
    · rename_i e
      rw [nput_mem u2, e]
      simp
    · rename_i e
      simp [e]
  have hkk : Kp (Fc Q G) w w' := hk.mono (fun i _ e => by
    rcases e with e | e
    · exact .inr (.inr (.inr (.inr (.inr ⟨p, h.iv.kb p hp, .inr (.inl e)⟩))))
    · exact .inr (.inr (.inr (.inr (.inr ⟨o, h.iv.kb o ho, .inr (.inr (.inl e))⟩)))))
  refine ⟨⟨hc, h.sw.kp hkk (fun i hi hf => h.ap i hf hi), h.ap, ⟨fun x a ha => ?_, fun x a => ?_, h.iv.rk.add (p := p) (o := o) hr hpo (fun x a ha => (hW x a).1 ha), h.iv.kb, h.iv.lk, h.iv.ll, h.iv.pk, h.iv.dk, h.iv.hp⟩, fun x a ha => ?_, h.pp, h.pn, h.nn, h.tt, h.tk, h.nb, h.yl, h.lr, h.bb, h.rr⟩, hkk.mono (fun i _ e => .inl e), fun i hi => .inl hi, fun i hi => .inl hi⟩
  · rcases (hW x a).1 ha with e | ⟨rfl, rfl⟩
    · exact h.iv.wk x a e
    · exact ⟨hp, ho⟩
  · rw [hW x a, hR x a, h.iv.wr x a]
  · rcases (hW x a).1 ha with e | ⟨rfl, rfl⟩
    · exact h.op x a e
    · have hu2 : (G.c a).di = true ∨ (G.c a).pe = true := by simpa using hu
      exact hu2
end
end Go.Proofs.YtnccklbnncaeoaaGreat
/- cache: what the file holds, move by move; plain mathematics. -/
namespace Go.Proofs.YtnccklbnncaeoaaGreat
open Go.RowKit
set_option linter.unusedVariables false
set_option linter.unusedSimpArgs false
/-- What the file holds at a place. -/
def cont (q : Gf) (i : Nat) : Int := ovs q.L q.ps i
theorem gwr_at (p : Nat) (xs : List Int) (n a : Nat) (q : Gf) (hp : p ≤ a) (hn : a - p + n = xs.length) :
    (gwr p xs q (pcs a n)).sz = (if n = 0 then q.sz else max q.sz (a + n)) ∧ ∀ i, cont (gwr p xs q (pcs a n)) i = if a ≤ i ∧ i < a + n then xs.getD (i - p) 0 else cont q i := by
  induction n using Nat.strongRecOn generalizing a q with
  | ind n ih =>
    by_cases h0 : n = 0
    · subst h0
      refine ⟨by rw [if_pos rfl]; rfl, fun i => ?_⟩
      rw [if_neg (by omega)]
      rfl
    · have hc1 := cutl_pos (a := a) (n := n) (by omega)
      have hc2 := cutl_le a n
      rw [pcs_step a n (by omega)]
      obtain ⟨c, hc⟩ : ∃ c, cutl a n = c := ⟨_, rfl⟩
      rw [hc] at hc1 hc2 ⊢
      obtain ⟨h1, h2⟩ := ih (n - c) (by omega) (a + c) (gw1 p xs q (a, c)) (by omega) (by omega)
      have e : gwr p xs q ((a, c) :: pcs (a + c) (n - c)) = gwr p xs (gw1 p xs q (a, c)) (pcs (a + c) (n - c)) := rfl
      rw [e]
      refine ⟨?_, fun i => ?_⟩
      · rw [h1, if_neg h0]
        show (if n - c = 0 then max q.sz (a + c) else max (max q.sz (a + c)) (a + c + (n - c))) = _
        split <;> omega
      · rw [h2 i]
        have hw : cont (gw1 p xs q (a, c)) i = ov (ovs q.L q.ps) (a, wby p xs (a, c)) i := by
          show ovs q.L (q.ps ++ [(a, wby p xs (a, c))]) i = _
          rw [ovs_snoc]
        have hl : (wby p xs (a, c)).length = c := by
          unfold wby
          simp
          omega
        rw [hw]
        unfold ov
        dsimp only
        rw [hl]
        by_cases c1 : a + c ≤ i ∧ i < a + c + (n - c)
        · rw [if_pos c1, if_pos (by omega)]
        · rw [if_neg c1]
          by_cases c2 : a ≤ i ∧ i < a + c
          · rw [if_pos c2, if_pos (by omega)]
            unfold wby
            have h3 : i - a < c := by omega
            have h4 : a - p + (i - a) = i - p := by omega
            simp [List.getD, List.getElem?_take, h3, List.getElem?_drop, h4]
          · rw [if_neg c2, if_neg (by omega)]
            rfl
theorem gwr_all (p : Nat) (xs : List Int) (q : Gf) (hx : xs ≠ []) :
    (gwr p xs q (pcs p xs.length)).sz = max q.sz (p + xs.length) ∧ ∀ i, cont (gwr p xs q (pcs p xs.length)) i = if p ≤ i ∧ i < p + xs.length then xs.getD (i - p) 0 else cont q i := by
  obtain ⟨h1, h2⟩ := gwr_at p xs xs.length p q (Nat.le_refl _) (by omega)
  refine ⟨?_, h2⟩
  rw [h1, if_neg (fun e => hx (List.eq_nil_of_length_eq_zero e))]
theorem qwr_nil (q : Gf) (p : Nat) (zs : List Int) : qwr q [] p zs = gwr p zs q (pcs p zs.length) := by
  unfold qwr
  have : lft ((([] : List (Int × Int)).headD (0, 0)).1) ((([] : List (Int × Int)).headD (0, 0)).2) zs.length = zs.length := rfl
  rw [this, List.take_of_length_le (pcs_len _ _)]
theorem qfl_nil (q : Gf) : qfl q [] = ⟨q.sz, ovs q.L q.ps, []⟩ := by
  unfold qfl
  have : lft ((([] : List (Int × Int)).headD (0, 0)).1) ((([] : List (Int × Int)).headD (0, 0)).2) q.ps.length = q.ps.length := rfl
  rw [this]
  unfold gfl
  rw [List.take_of_length_le (Nat.le_refl _), List.drop_of_length_le (Nat.le_refl _)]
theorem cont_fl (q : Gf) (i : Nat) : cont (qfl q []) i = cont q i := by
  rw [qfl_nil]
  rfl
/-- What is beyond the file's end is nought. -/
def Zb (q : Gf) : Prop := ∀ i, q.sz ≤ i → cont q i = 0
theorem ldz_get {q : Gf} (hz : Zb q) (bits k j : Nat) (hj : j < 2 ^ bits) : (ldz q bits k).getD j 0 = cont q (k * 2 ^ bits + j) := by
  have hl : (rdz q (k * 2 ^ bits) (2 ^ bits)).length = min (2 ^ bits) (q.sz - k * 2 ^ bits) := by unfold rdz; simp
  unfold ldz
  rw [getD_splice _ _ _ _ (by rw [hl]; simp; omega)]
  by_cases h : j < q.sz - k * 2 ^ bits
  · rw [if_pos ⟨by omega, by rw [hl]; omega⟩]
    unfold rdz cont
    have h2 : j < min (2 ^ bits) (q.sz - k * 2 ^ bits) := by omega
    simp [List.getD, h2]
  · rw [if_neg (by rw [hl]; omega), hz _ (by omega)]
    simp [List.getD, hj]
/-- A page that is kept and not dirty is as the file. -/
def Cl (bits : Nat) (G : Gc) (q : Gf) : Prop := ∀ b ∈ G.L, (G.c b).di = false → ∀ i zs, G.y b = some (i, zs) → ∀ j, j < 2 ^ bits → zs.getD j 0 = cont q ((G.c b).n * 2 ^ bits + j)
/-- Does a place lie in page n? -/
def inP (bits n p : Nat) : Prop := n * 2 ^ bits ≤ p ∧ p < n * 2 ^ bits + 2 ^ bits
theorem inP_uniq {bits m n p : Nat} (h : inP bits m p) (k : inP bits n p) : m = n := by
  unfold inP at h k
  have hm : p / 2 ^ bits = m := by
    apply Nat.div_eq_of_lt_le
    · omega
    · rw [Nat.add_mul]; omega
  have hn : p / 2 ^ bits = n := by
    apply Nat.div_eq_of_lt_le
    · omega
    · rw [Nat.add_mul]; omega
  omega
theorem inP_off {bits n j : Nat} (hj : j < 2 ^ bits) : inP bits n (n * 2 ^ bits + j) := ⟨by omega, by omega⟩
structure Fcl (bits : Nat) (X Y : Xt) : Prop where
  zb : Zb Y.q
  cl : Cl bits Y.G Y.q
  eq : ∀ p, (∀ b ∈ X.G.L, ¬ inP bits (X.G.c b).n p) → cont Y.q p = cont X.q p
  sz : X.q.sz ≤ Y.q.sz
  szb : ∀ M, X.q.sz ≤ M → (∀ b ∈ X.G.L, ((X.G.c b).n + 1) * 2 ^ bits ≤ M) → Y.q.sz ≤ M
theorem rc_cl {bits n : Nat} {X Y : Xt} (h : Rc bits n X Y) (hf : X.ft = []) (hn : Nin X.G.c X.G.L) (hy : ∀ b ∈ X.G.L, ∀ i zs, X.G.y b = some (i, zs) → zs.length = 2 ^ bits) (hz : Zb X.q) (hc : Cl bits X.G X.q) : Fcl bits X Y := by
  induction h using Rc.ind with
  | refl => exact ⟨hz, hc, fun _ _ => rfl, Nat.le_refl _, fun M h _ => h⟩
  | step hr hm ih =>
    rename_i n X Y Z
    have hs := hr.stb
    have hft := hr.ftn hf
    have ih := ih hf hn hy hz hc
    have hL : ∀ b, b ∈ Y.G.L ↔ b ∈ X.G.L := fun b => hs.L.mem_iff
    cases hm using Mve.el with
    | fl hk k =>
      rename_i G'
      have hl := k.les
      rw [hft]
      refine ⟨fun i hi => ?_, fun b hb hd i zs e j hj => ?_, fun p hp => ?_, ?_, fun M h1 h2 => ?_⟩
      · show cont (qfl Y.q []) i = 0
        rw [cont_fl]
        exact ih.zb i (by have : (qfl Y.q []).sz ≤ i := hi; rw [qfl_nil] at this; exact this)
      · show zs.getD j 0 = cont (qfl Y.q []) ((G'.c b).n * 2 ^ bits + j)
        have hb' : b ∈ Y.G.L := by rw [← hl.L]; exact hb
        have hd' : (Y.G.c b).di = false := by rw [← (hl.c b).2.2.1]; exact hd
        have e' : Y.G.y b = some (i, zs) := by rw [← hl.y]; exact e
        rw [cont_fl, (hl.c b).1]
        exact ih.cl b hb' hd' i zs e' j hj
      · show cont (qfl Y.q []) p = _
        rw [cont_fl]; exact ih.eq p hp
      · show _ ≤ (qfl Y.q []).sz
        rw [qfl_nil]; exact ih.sz
      · show (qfl Y.q []).sz ≤ M
        rw [qfl_nil]; exact ih.szb M h1 h2
    | wr hk hbL hd hW hyb k =>
      rename_i G' b i zs
      rw [hft, qwr_nil]
      have hbX := (hL b).1 hbL
      have hyX : X.G.y b = some (i, zs) := by rw [← hs.y]; exact hyb
      have hzl := hy b hbX i zs hyX
      have hne : zs ≠ [] := fun e => by rw [e] at hzl; have := Nat.two_pow_pos bits; simp at hzl; omega
      obtain ⟨g1, g2⟩ := gwr_all ((Y.G.c b).n * 2 ^ bits) zs Y.q hne
      have hnb : (Y.G.c b).n = (X.G.c b).n := (hs.c b).1
      refine ⟨fun p hp => ?_, fun a ha hda j us e o ho => ?_, fun p hp => ?_, ?_, fun M h1 h2 => ?_⟩
      · change (gwr _ _ _ _).sz ≤ p at hp
        show cont (gwr _ _ _ _) p = 0
        rw [g1] at hp
        rw [g2, if_neg (by omega)]
        exact ih.zb p (by omega)
      · show us.getD o 0 = cont (gwr _ _ _ _) ((G'.c a).n * 2 ^ bits + o)
        have haY : a ∈ Y.G.L := k.L.mem_iff.1 ha
        have eY : Y.G.y a = some (j, us) := by rw [← k.y]; exact e
        rw [(k.stb.c a).1, g2]
        by_cases hab : a = b
        · subst hab
          rw [hyb] at eY
          cases eY
          rw [if_pos (by rw [hzl]; omega)]
          congr 1
          omega
        · have hda' : (Y.G.c a).di = false := by
            have := k.di a
            rw [if_neg hab] at this
            rw [← this]; exact hda
          have hno : ¬ ((Y.G.c b).n * 2 ^ bits ≤ (Y.G.c a).n * 2 ^ bits + o ∧ (Y.G.c a).n * 2 ^ bits + o < (Y.G.c b).n * 2 ^ bits + zs.length) := by
            rw [hzl]
            intro hx
            have h1 := inP_uniq (inP_off (n := (Y.G.c a).n) ho) (show inP bits (Y.G.c b).n _ from hx)
            refine hab (hn a ((hL a).1 haY) b hbX ?_)
            rw [← (hs.c a).1, ← hnb]; exact h1
          rw [if_neg hno]
          exact ih.cl a haY hda' j us eY o ho
      · show cont (gwr _ _ _ _) p = _
        rw [g2, if_neg (by
          rw [hzl, hnb]
          exact hp b hbX)]
        exact ih.eq p hp
      · show _ ≤ (gwr _ _ _ _).sz
        rw [g1]
        have := ih.sz
        omega
      · show (gwr _ _ _ _).sz ≤ M
        rw [g1]
        have h3 := ih.szb M h1 h2
        have h4 := h2 b hbX
        rw [hzl, hnb]
        rw [Nat.add_mul] at h4
        omega
end Go.Proofs.YtnccklbnncaeoaaGreat
