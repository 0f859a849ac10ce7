import Derived.Test.YtnccklbnncaeoaaGreatJbr
/- CacheRoom: a read, a write. -/
namespace Go.Proofs.YtnccklbnncaeoaaGreat
open Go.RowKit
set_option linter.unusedVariables false
set_option linter.unusedSimpArgs false
set_option linter.constructorNameAsVariable false
/-- Where CacheRoom stands. -/
structure Rs (w0 : World) (g Q bits room us wr lim : Nat) (G : Gc) (q : Gf) (F : Nat → Prop) (N : Nat) (w : World) : Prop where
  v : Cv nmf g bits room Q N G q [] F w
  r : Rm wr G
  t : G.t = us
  u : N + mu G ≤ lim
  lo : Lo w0 Q G F w
section
variable {w0 w : World} {g Q bits room us wr lim N : Nat} {G : Gc} {q : Gf} {F : Nat → Prop}
theorem Rs.kp0 {w' : World} (h : Rs w0 g Q bits room us wr lim G q F N w) (k : Kp (fun _ => False) w w') : Rs w0 g Q bits room us wr lim G q F N w' :=
  ⟨h.v.kp0 k, h.r, h.t, h.u, h.lo.kp0 k⟩
theorem cch_kp {w' : World} (k : Kp (fun _ => False) w w') : Cch Q G G F F w w' := ⟨k.mono (fun _ _ h => h.elim), fun _ h => .inl h, fun _ h => .inl h⟩
/-- Marks that stand beside the cache and the file. -/
def Mkd (m : Nat) (Ds : List Nat) (Q : Nat) (G : Gc) (F : Nat → Prop) (w : World) : Prop := Ds.Nodup ∧ ∀ D ∈ Ds, m ≤ D ∧ w.heap[D]? = some (.deferred (some [])) ∧ ¬ Fc Q G D ∧ ¬ F D
theorem Mkd.ch {m : Nat} {Ds : List Nat} {G' : Gc} {F' : Nat → Prop} {w' : World} (h : Mkd m Ds Q G F w) (c : Cch Q G G' F F' w w') : Mkd m Ds Q G' F' w' :=
  ⟨h.1, fun D hD => by
    obtain ⟨h0, h1, h2, h3⟩ := h.2 D hD
    have hl := (Array.getElem?_eq_some_iff.1 h1).1
    refine ⟨h0, (c.kp.block D hl (fun e => e.elim h2 h3)).trans h1, fun e => ?_, fun e => ?_⟩
    · rcases c.fc D e with h4 | h4
      · exact h2 h4
      · omega
    · rcases c.ff D e with h4 | h4
      · exact h3 h4
      · omega⟩
theorem Mkd.new {m D : Nat} {Ds : List Nat} {w' : World} (h : Mkd m Ds Q G F w) (hv : ∀ i, (Fc Q G i ∨ F i) → i < w.heap.size) (k : Kp (fun _ => False) w w') (hm : m ≤ w.heap.size) (hD : w.heap.size ≤ D) (hd : w'.heap[D]? = some (.deferred (some []))) : Mkd m (D :: Ds) Q G F w' := by
  refine ⟨List.nodup_cons.2 ⟨fun e => ?_, h.1⟩, fun E hE => ?_⟩
  · have := (Array.getElem?_eq_some_iff.1 (h.2 D e).2.1).1
    omega
  · rcases List.mem_cons.1 hE with rfl | hE
    · exact ⟨by omega, hd, fun e => by have := hv E (.inl e); omega, fun e => by have := hv E (.inr e); omega⟩
    · obtain ⟨h0, h1, h2, h3⟩ := h.2 E hE
      exact ⟨h0, (k.block E (Array.getElem?_eq_some_iff.1 h1).1 (fun e => e)).trans h1, h2, h3⟩
theorem Rs.up (h : Rs w0 g Q bits room us wr lim G q F N w) : Rs w0 g Q bits room us wr (lim + 1) G q F N w := ⟨h.v, h.r, h.t, by have := h.u; omega, h.lo⟩
theorem Rm.up (h : Rm wr G) : Rm (wr + 1) G := ⟨h.W, by have := h.b; omega, h.l, h.p⟩
theorem mayn_lt {bits : Nat} {k : Int} (h : mayn bits k = true) (hk : k < 12) : k.toNat < 12 := by
  unfold mayn at h
  rw [Bool.and_eq_true] at h
  have h1 := of_decide_eq_true h.1
  omega
theorem Rs.read (h : Rs w0 g Q bits room us wr lim G q F N w) (pg at0 n : Int) (hp : pg < 12) (ha : at0 ≤ 9223372036854775807) (hu : us ≤ 1000) (hl : lim ≤ 8000) :
    Calls Tryz.prog 28 #[ptr Q, .int .i64 pg, .int .i64 at0, .int .i64 n] w fun e w' => ∃ v z, e = .returned (.tuple #[v, .int .i64 z]) ∧
      ((z = 0 ∧ ∃ G' q' F' N', Rs w0 g Q bits room (us + 1) wr lim G' q' F' N' w' ∧ Cch Q G G' F F' w w') ∨ (z ≠ 0 ∧ ∃ G' q' F' N', Rs w0 g Q bits room us wr lim G' q' F' N' w' ∧ Cch Q G G' F F' w w')) := by
  refine (read_any h.v pg at0 n ha (by rw [h.t]; omega) (by have := h.u; omega)).mono ?_
  intro e w' hr
  cases hr using RdR.el with
  | bad h1 k => exact ⟨_, _, rfl, .inr ⟨by decide, _, _, _, _, h.kp0 k, cch_kp k⟩⟩
  | fail a1 a2 a3 hz ho a6 a7 a8 => exact absurd (ho.ftn rfl).1 hz
  | ok a1 a2 hus hbL hy hown hno hvv hc =>
    obtain ⟨hR, hf, hm, ht⟩ := use_rm h.v h.r hus (mayn_lt a1 hp)
    subst hf
    exact ⟨_, _, rfl, .inl ⟨rfl, _, _, _, _, ⟨hvv, hR, by rw [ht, h.t], by have := h.u; omega, h.lo.ch hc⟩, hc⟩⟩
theorem Rs.write (h : Rs w0 g Q bits room us wr lim G q F N w) (pg at0 : Int) (xs : List Int) (ao : Option Addr) (m cap : Nat) (hm : m = xs.length) (hm6 : m ≤ 5000) (hS : Src .u8 w0 ao xs) (hx : ∀ r off, ao = some ⟨r, off, none⟩ → 0 < m → r < w0.heap.size) (hp : pg < 12) (ha : at0 ≤ 9223372036854775807) (hu : us ≤ 1000) (hl : lim ≤ 8000) :
    Calls Tryz.prog 22 #[ptr Q, .int .i64 pg, .int .i64 at0, .slice ao m cap] w fun e w' => ∃ z, e = .returned (.int .i64 z) ∧
      ((z = 0 ∧ ∃ G' q' F' N', Rs w0 g Q bits room (us + 1) (wr + 1) (lim + 1) G' q' F' N' w' ∧ Cch Q G G' F F' w w') ∨ (z ≠ 0 ∧ ∃ G' q' F' N', Rs w0 g Q bits room us wr (lim + 1) G' q' F' N' w' ∧ Cch Q G G' F F' w w')) := by
  refine (cwrite_all h.v pg at0 xs ao m cap hm (by omega) (hS.kp h.lo.kp (fun _ _ _ e => e)) (fun h0 r off e => ?_) ha (by rw [h.t]; omega) (by have := h.u; omega)).mono ?_
  · have := hx r off e (by omega)
    exact ⟨fun hi => by have := h.lo.fc r hi; omega, fun hi => by have := h.lo.ff r hi; omega⟩
  intro e w' hw
  cases hw using WrR.el with
  | bad h1 k => exact ⟨_, rfl, .inr ⟨by decide, _, _, _, _, (h.kp0 k).up, cch_kp k⟩⟩
  | fail a1 a2 a3 hz ho a6 a7 a8 => exact absurd (ho.ftn rfl).1 hz
  | nil a1 a2 hus hbL he hvv hc =>
    obtain ⟨hR, hf, hm, ht⟩ := use_rm h.v h.r hus (mayn_lt a1 hp)
    subst hf
    exact ⟨_, rfl, .inl ⟨rfl, _, _, _, _, ⟨hvv, hR.up, by rw [ht, h.t], by have := h.u; omega, h.lo.ch hc⟩, hc⟩⟩
  | ok a1 a2 hus hbL hy a6 hL hvv hc =>
    obtain ⟨hR, hf, hm, ht⟩ := use_rm h.v h.r hus (mayn_lt a1 hp)
    subst hf
    obtain ⟨hR2, hm2⟩ := wr_rm hR hbL (hL.nodup_iff.1 hvv.cm.ln.nodup) hL
    exact ⟨_, rfl, .inl ⟨rfl, _, _, _, _, ⟨hvv, hR2, by show _ + 0 = _; exact ht.trans (by rw [h.t]), by have := h.u; omega, h.lo.ch hc⟩, hc⟩⟩
/-- What Counts tells keeps what the statement asks. -/
theorem Rs.tell (h : Rs w0 g Q bits room us wr lim G q F N w) : G.L.length ≤ room ∧ G.n1 + G.n2 = us ∧ G.n3 ≤ wr ∧ G.L.length ≤ G.n2 := by
  have := h.r.b
  exact ⟨h.v.lr, h.v.tt.trans h.t, by omega, h.r.l⟩
end
end Go.Proofs.YtnccklbnncaeoaaGreat
/- CacheRoom: a flush. -/
namespace Go.Proofs.YtnccklbnncaeoaaGreat
open Go.RowKit
set_option linter.unusedVariables false
set_option linter.unusedSimpArgs false
set_option linter.constructorNameAsVariable false
theorem rc_n4 {bits n : Nat} {X Y : Xt} (h : Rc bits n X Y) : X.G.n4 ≤ Y.G.n4 := by
  induction h using Rc.ind with
  | refl => exact Nat.le_refl _
  | step hr hm ih =>
    cases hm using Mve.el with
    | fl hk k =>
      rcases k with ⟨h0, _⟩ | ⟨_, hl, _, h4, _⟩
      · exact absurd rfl h0
      · exact Nat.le_trans ih (by show _ ≤ _; rw [h4]; omega)
    | wr hk hbL hdi hW hyb k => exact Nat.le_trans ih (by show _ ≤ _; rw [k.n4]; exact Nat.le_refl _)
section
variable {w0 w : World} {g Q bits room us wr lim N : Nat} {G : Gc} {q : Gf} {F : Nat → Prop}
theorem Rs.flush (h : Rs w0 g Q bits room us wr lim G q F N w) (hl : lim ≤ 8000) :
    Calls Tryz.prog 25 #[ptr Q] w fun e w' => e = .returned (.int .i64 0) ∧ ∃ G' q' F' N', Rs w0 g Q bits room us wr (lim + 1) G' q' F' N' w' ∧ Cch Q G G' F F' w w' ∧ G'.n4 = G.n4 + 1 ∧ G'.n3 = G.n3 + dn G ∧ dn G' = 0 := by
  refine (flushall_any h.v (by have := h.u; omega)).mono ?_
  rintro e w' ⟨z, k, G', q', ft', F', rfl, hv, hc, ho, hmu, hz⟩
  obtain ⟨rfl, hrc, hf⟩ := ho.ftn rfl
  change ft' = [] at hf
  subst hf
  obtain ⟨hcl, hP, k1, G1, q1, ft1, rfl, hrc1, hmu1, hd1, -, hfl, -, -⟩ := hz rfl
  have hs1 := hrc1.stb
  rcases hfl with ⟨h0, _⟩ | ⟨_, hl2, _, h4, _⟩
  · exact absurd rfl h0
  have hW1 : ∀ x, G1.W x = [] := fun x => nil_of_sub (hs1.W x) (h.r.W x)
  have hW' : ∀ x, G'.W x = [] := fun x => nil_of_sub (hl2.W x) (hW1 x)
  have hLB : ∀ a ∈ G'.L, a ∈ G'.B := fun a ha => hv.cm.lb a ha
  have hd0 : dn G' = 0 := by
    unfold dn
    rw [List.countP_eq_zero]
    intro a ha
    rw [(hcl a (hLB a ha)).1]
    simp
  have hd2 : dn G1 = 0 := by
    unfold dn
    rw [List.countP_eq_zero]
    intro a ha
    rw [hd1 a (by rw [← hl2.B]; exact hLB a (by rw [hl2.L]; exact ha))]
    simp
  have hdn := hrc1.dn h.v.cm.ln.nodup
  change G1.n3 + dn G1 = G.n3 + dn G at hdn
  have hct := hrc1.cnt
  change G1.n3 + G1.n4 = G.n3 + G.n4 + k1 at hct
  have hn4 := rc_n4 hrc1
  change G.n4 ≤ G1.n4 at hn4
  rw [mu_nil hW1, mu_nil h.r.W, hd2] at hmu1
  have e3 : G'.n3 = G1.n3 := hl2.n3
  have e2 : G'.n2 = G.n2 := hl2.n2.trans hs1.n2
  have hb := h.r.b
  have hLl : G'.L.length = G.L.length := by rw [hl2.L]; exact hs1.L.length_eq
  have hu := h.u
  rw [mu_nil h.r.W] at hu
  refine ⟨rfl, G', q', F', N + (k1 + 1), ⟨hv, ⟨hW', by omega, by rw [hLl, e2]; exact h.r.l, fun a ha => ?_⟩, ?_, ?_, h.lo.ch hc⟩, hc, by omega, by omega, hd0⟩
  · rw [(hl2.c a).1]
    have h1 : (G1.c a).n = (G.c a).n := (hs1.c a).1
    rw [h1]
    exact h.r.p a (hs1.L.mem_iff.1 (by rw [hl2.L] at ha; exact ha))
  · have h1 : G1.t = G.t := hs1.t
    rw [hl2.t, h1]; exact h.t
  · rw [mu_nil hW', hd0]; omega
end
end Go.Proofs.YtnccklbnncaeoaaGreat
