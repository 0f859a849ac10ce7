import Derived.Test.YtnccklbnncaeoaaGreatJbj
import Derived.Test.YtnccklbnncaeoaaGreatJbg
import Derived.Laws.EntriesVeiled
/- cache: leadsTo. -/
namespace Go.Proofs.YtnccklbnncaeoaaGreat
open Go.RowKit
set_option linter.unusedVariables false
set_option linter.unusedSimpArgs false
theorem dfs_all {S : ByteArray} {g bits room Q : Nat} {G : Gc} {s f oc d m o : Nat} (hiv : Iv G) (hoB : o ∈ G.B) (n : Nat) : DsIH S g bits room Q G s f oc d m o n := by
  induction n using Nat.strongRecOn with
  | ind n ih => exact dfs_step hiv hoB n ih
/-- The cells at the search's beginning. -/
def wLead (w : World) (o : Nat) : World := ((((w.alloc (.cells #[ptr o] 138)).alloc (.cells #[.bool false] 4)).alloc (.map #[] 0)).alloc (.cells #[.map (some (w.heap.size + 2))] 192)).alloc (.cells #[.func (.func 111) #[] #[ptr (w.heap.size + 3), ptr (w.heap.size + 1), ptr w.heap.size, ptr (w.heap.size + 4)]] 143)
theorem lead_kp (w : World) (o : Nat) : Kp (fun _ => False) w (wLead w o) := (((((Kp.refl _ _).alloc _).alloc _).alloc _).alloc _).alloc _
theorem lead_ds {S : ByteArray} {g bits room Q : Nat} {G : Gc} {w : World} (h : Cm S g bits room Q G w) (o : Nat) : Ds S g bits room Q G (w.heap.size + 3) (w.heap.size + 1) w.heap.size (w.heap.size + 4) (w.heap.size + 2) o [] false (wLead w o) := by
  obtain ⟨z, hz⟩ : ∃ z, w.heap.size = z := ⟨_, rfl⟩
  have hlt : ∀ i, Fc Q G i → i < z := fun i hi => by rw [← hz]; exact h.lt hi
  have hk := lead_kp w o
  refine ⟨h.kp0 hk, ?_, ?_, ?_, ?_, ?_, fun hx => by (have := hlt _ hx; omega), fun hx => by (have := hlt _ hx; omega), fun b hb e => ?_⟩
  · have s1 := St.new 192 (((w.alloc (.cells #[ptr o] 138)).alloc (.cells #[.bool false] 4)).alloc (.map #[] 0)) #[.map (some (w.heap.size + 2))]
    simp only [World.size_alloc] at s1
    exact s1.kp ((Kp.refl (fun _ => False) _).alloc _) (fun h => h)
  · have s1 := St.new 4 (w.alloc (.cells #[ptr o] 138)) #[.bool false]
    simp only [World.size_alloc] at s1
    exact s1.kp ((((Kp.refl (fun _ => False) _).alloc _).alloc _).alloc _) (fun h => h)
  · exact (St.new 138 w #[ptr o]).kp (((((Kp.refl (fun _ => False) _).alloc _).alloc _).alloc _).alloc _) (fun h => h)
  · have s1 := St.new 143 ((((w.alloc (.cells #[ptr o] 138)).alloc (.cells #[.bool false] 4)).alloc (.map #[] 0)).alloc (.cells #[.map (some (w.heap.size + 2))] 192)) #[.func (.func 111) #[] #[ptr (w.heap.size + 3), ptr (w.heap.size + 1), ptr w.heap.size, ptr (w.heap.size + 4)]]
    simp only [World.size_alloc] at s1
    exact s1
  · have s1 := Sn.new G ((w.alloc (.cells #[ptr o] 138)).alloc (.cells #[.bool false] 4))
    simp only [World.size_alloc] at s1
    exact s1.kp (((Kp.refl (fun _ => False) _).alloc _).alloc _) (fun h => h)
  · have := hlt (G.c b).wm (.inr (.inr (.inr (.inr (.inr ⟨b, hb, .inr (.inl rfl)⟩)))))
    omega
section
variable {S : ByteArray} {g bits room Q N : Nat} {G : Gc} {q : Gf} {ft : List (Int × Int)} {F : Nat → Prop} {w : World}
set_option maxHeartbeats 4000000 in
set_option maxRecDepth 100000 in
theorem leads_any (h : Cv S g bits room Q N G q ft F w) (p o : Nat) (hp : p ∈ G.B) (ho : o ∈ G.B) :
    Calls Tryz.prog 66 #[ptr p, ptr o] w fun e w' => ∃ r : Bool, e = .returned (.bool r) ∧ (r = true ↔ Rch G.W p o) ∧ Kp (fun _ => False) w w' := by
  have hmm := @run_makeMap Tryz.prog
  obtain ⟨s1, hs1⟩ := (h.cm.pg o ho).wt
  have hrs := (h.cm.pg o ho).rs
  have KB : Hid (Kp (fun _ => False) w (w.alloc (.cells #[ptr o] 138))) := (Kp.refl _ _).alloc _
  have y7 := St.cell (hs1.kp KB.out (fun h => h)) 7
  simp [Pc.cs] at y7
  have hlen := fun ty => run_len_mn (hrs.kp KB.out (fun h => h)) ty
  have HD := hid (lead_ds h.cm o)
  have HK := hid (lead_kp w o)
  have HC : Hid (Calls Tryz.prog 111 #[ptr p, ptr (w.heap.size + 3), ptr (w.heap.size + 1), ptr w.heap.size, ptr (w.heap.size + 4)] (wLead w o) (DsP S g bits room Q G (w.heap.size + 3) (w.heap.size + 1) w.heap.size (w.heap.size + 4) (w.heap.size + 2) o p [] false (wLead w o))) := dfs_all h.iv ho _ _ _ _ _ HD.out hp (Nat.lt_succ_self _)
  have HR : Hid (∀ c, o ∈ G.W c → c ∈ G.R o) := fun c hc => (h.iv.wr c o).1 hc
  clear h hs1 hrs
  unfold wLead at HC HK HD
  unfold ptr at *
  cases hR : G.R o with
  | nil =>
    rw [hR] at hlen
    simp only [List.length_nil] at hlen
    go_enter Tryz.func66, Tryz.ntmps66
    go_wp2_with (first | (simp only [hlen]))
    go_ret
    refine ⟨false, rfl, ⟨fun e => (by cases e), fun e => ?_⟩, KB.out⟩
    obtain ⟨c, hc, _⟩ := e.last
    have := HR.out c hc
    rw [hR] at this
    cases this
  | cons x l =>
    rw [hR] at hlen
    simp only [List.length_cons] at hlen
    have hpos : ¬ ((l.length : Int) + 1 = 0) := by omega
    go_enter Tryz.func66, Tryz.ntmps66
    go_wp2_with (first | (simp only [hlen]))
    refine HC.out.mono ?_
    rintro _ w2 ⟨rfl, sn', fo', hd, hk, -, hsr⟩
    have zf := hd.cf.cell 0
    simp at zf
    have HE : Hid (Kp (fun _ => False) w w2) := HK.out.trans hk (fun i hi e => by omega)
    have HSR := hid hsr.rch
    clear hd hk hsr HC HD HK hlen y7 hmm
    go_wp2_with fail
    go_ret
    exact ⟨fo', rfl, HSR.out, HE.out⟩
end
end Go.Proofs.YtnccklbnncaeoaaGreat
/- cache: After. -/
namespace Go.Proofs.YtnccklbnncaeoaaGreat
open Go.RowKit
set_option linter.unusedVariables false
set_option linter.unusedSimpArgs false
/-- After. -/
def AfR (S : ByteArray) (g bits room Q N : Nat) (G : Gc) (q : Gf) (ft : List (Int × Int)) (F : Nat → Prop) (w : World) (p o : Int) (e : Ending) (w' : World) : Prop :=
  (((mayn bits p && mayn bits o) = false) ∧ (Kp (fun _ => False) w w') ∧ e = (.returned (.int .i64 2))) ∨
  ((mayn bits p = true) ∧ (mayn bits o = true) ∧ (p = o) ∧ (Kp (fun _ => False) w w') ∧ e = (.returned (.int .i64 240))) ∨
  ((mayn bits p = true) ∧ (mayn bits o = true) ∧ (p ≠ o) ∧ (nget G.c G.K o.toNat = none) ∧ (Kp (fun _ => False) w w') ∧ e = (.returned (.int .i64 0))) ∨
  (∃ a : Nat, ∃ b : Nat, (mayn bits p = true) ∧ (mayn bits o = true) ∧ (p ≠ o) ∧ (nget G.c G.K o.toNat = some b) ∧ (nget G.c G.K p.toNat = some a) ∧ (Rch G.W b a) ∧ (Kp (fun _ => False) w w') ∧ e = (.returned (.int .i64 240))) ∨
  (∃ b : Nat, (mayn bits p = true) ∧ (mayn bits o = true) ∧ (p ≠ o) ∧ (nget G.c G.K o.toNat = some b) ∧ ((∀ a, nget G.c G.K p.toNat = some a → ¬ Rch G.W b a)) ∧ (((G.c b).di || (G.c b).pe) = false) ∧ (Kp (fun _ => False) w w') ∧ e = (.returned (.int .i64 0))) ∨
  (∃ s : Nat, ∃ a : Nat, ∃ b : Nat, ∃ G2 : Gc, (mayn bits p = true) ∧ (mayn bits o = true) ∧ (p ≠ o) ∧ (nget G.c G.K o.toNat = some b) ∧ ((∀ a, nget G.c G.K p.toNat = some a → ¬ Rch G.W b a)) ∧ (((G.c b).di || (G.c b).pe) = true) ∧ (w.heap.size ≤ s) ∧ (KnG s G p.toNat a G2) ∧ (Cv S g bits room Q N (gAf G2 a b) q ft F w') ∧ (Cch Q G (gAf G2 a b) F F w w') ∧ e = (.returned (.int .i64 0)))
theorem AfR.arg {S : ByteArray} {g bits room Q N : Nat} {G : Gc} {q : Gf} {ft : List (Int × Int)} {F : Nat → Prop} {w : World} {p o : Int} {w' : World} (h1 : (mayn bits p && mayn bits o) = false) (h2 : Kp (fun _ => False) w w') : AfR S g bits room Q N G q ft F w p o (.returned (.int .i64 2)) w' :=
  .inl ⟨h1, h2, rfl⟩
theorem AfR.same {S : ByteArray} {g bits room Q N : Nat} {G : Gc} {q : Gf} {ft : List (Int × Int)} {F : Nat → Prop} {w : World} {p o : Int} {w' : World} (h1 : mayn bits p = true) (h2 : mayn bits o = true) (h3 : p = o) (h4 : Kp (fun _ => False) w w') : AfR S g bits room Q N G q ft F w p o (.returned (.int .i64 240)) w' :=
  .inr (.inl ⟨h1, h2, h3, h4, rfl⟩)
theorem AfR.nil {S : ByteArray} {g bits room Q N : Nat} {G : Gc} {q : Gf} {ft : List (Int × Int)} {F : Nat → Prop} {w : World} {p o : Int} {w' : World} (h1 : mayn bits p = true) (h2 : mayn bits o = true) (h3 : p ≠ o) (h4 : nget G.c G.K o.toNat = none) (h5 : Kp (fun _ => False) w w') : AfR S g bits room Q N G q ft F w p o (.returned (.int .i64 0)) w' :=
  .inr (.inr (.inl ⟨h1, h2, h3, h4, h5, rfl⟩))
theorem AfR.loop {S : ByteArray} {g bits room Q N : Nat} {G : Gc} {q : Gf} {ft : List (Int × Int)} {F : Nat → Prop} {w : World} {p o : Int} {w' : World} {a : Nat} {b : Nat} (h1 : mayn bits p = true) (h2 : mayn bits o = true) (h3 : p ≠ o) (h4 : nget G.c G.K o.toNat = some b) (h5 : nget G.c G.K p.toNat = some a) (h6 : Rch G.W b a) (h7 : Kp (fun _ => False) w w') : AfR S g bits room Q N G q ft F w p o (.returned (.int .i64 240)) w' :=
  .inr (.inr (.inr (.inl ⟨a, b, h1, h2, h3, h4, h5, h6, h7, rfl⟩)))
theorem AfR.idle {S : ByteArray} {g bits room Q N : Nat} {G : Gc} {q : Gf} {ft : List (Int × Int)} {F : Nat → Prop} {w : World} {p o : Int} {w' : World} {b : Nat} (h1 : mayn bits p = true) (h2 : mayn bits o = true) (h3 : p ≠ o) (h4 : nget G.c G.K o.toNat = some b) (h5 : (∀ a, nget G.c G.K p.toNat = some a → ¬ Rch G.W b a)) (h6 : ((G.c b).di || (G.c b).pe) = false) (h7 : Kp (fun _ => False) w w') : AfR S g bits room Q N G q ft F w p o (.returned (.int .i64 0)) w' :=
  .inr (.inr (.inr (.inr (.inl ⟨b, h1, h2, h3, h4, h5, h6, h7, rfl⟩))))
theorem AfR.ok {S : ByteArray} {g bits room Q N : Nat} {G : Gc} {q : Gf} {ft : List (Int × Int)} {F : Nat → Prop} {w : World} {p o : Int} {w' : World} {s : Nat} {a : Nat} {b : Nat} {G2 : Gc} (h1 : mayn bits p = true) (h2 : mayn bits o = true) (h3 : p ≠ o) (h4 : nget G.c G.K o.toNat = some b) (h5 : (∀ a, nget G.c G.K p.toNat = some a → ¬ Rch G.W b a)) (h6 : ((G.c b).di || (G.c b).pe) = true) (h7 : w.heap.size ≤ s) (h8 : KnG s G p.toNat a G2) (h9 : Cv S g bits room Q N (gAf G2 a b) q ft F w') (h10 : Cch Q G (gAf G2 a b) F F w w') : AfR S g bits room Q N G q ft F w p o (.returned (.int .i64 0)) w' :=
  .inr (.inr (.inr (.inr (.inr (⟨s, a, b, G2, h1, h2, h3, h4, h5, h6, h7, h8, h9, h10, rfl⟩)))))
theorem AfR.el {S : ByteArray} {g bits room Q N : Nat} {G : Gc} {q : Gf} {ft : List (Int × Int)} {F : Nat → Prop} {w : World} {p o : Int} {motive : ∀ (e : Ending) (w' : World), AfR S g bits room Q N G q ft F w p o e w' → Prop}
    (arg : ∀ {w' : World} (h1 : (mayn bits p && mayn bits o) = false) (h2 : Kp (fun _ => False) w w'), motive (.returned (.int .i64 2)) w' (AfR.arg h1 h2))
    (same : ∀ {w' : World} (h1 : mayn bits p = true) (h2 : mayn bits o = true) (h3 : p = o) (h4 : Kp (fun _ => False) w w'), motive (.returned (.int .i64 240)) w' (AfR.same h1 h2 h3 h4))
    (nil : ∀ {w' : World} (h1 : mayn bits p = true) (h2 : mayn bits o = true) (h3 : p ≠ o) (h4 : nget G.c G.K o.toNat = none) (h5 : Kp (fun _ => False) w w'), motive (.returned (.int .i64 0)) w' (AfR.nil h1 h2 h3 h4 h5))
    (loop : ∀ {w' : World} {a : Nat} {b : Nat} (h1 : mayn bits p = true) (h2 : mayn bits o = true) (h3 : p ≠ o) (h4 : nget G.c G.K o.toNat = some b) (h5 : nget G.c G.K p.toNat = some a) (h6 : Rch G.W b a) (h7 : Kp (fun _ => False) w w'), motive (.returned (.int .i64 240)) w' (AfR.loop h1 h2 h3 h4 h5 h6 h7))
    (idle : ∀ {w' : World} {b : Nat} (h1 : mayn bits p = true) (h2 : mayn bits o = true) (h3 : p ≠ o) (h4 : nget G.c G.K o.toNat = some b) (h5 : (∀ a, nget G.c G.K p.toNat = some a → ¬ Rch G.W b a)) (h6 : ((G.c b).di || (G.c b).pe) = false) (h7 : Kp (fun _ => False) w w'), motive (.returned (.int .i64 0)) w' (AfR.idle h1 h2 h3 h4 h5 h6 h7))
    (ok : ∀ {w' : World} {s : Nat} {a : Nat} {b : Nat} {G2 : Gc} (h1 : mayn bits p = true) (h2 : mayn bits o = true) (h3 : p ≠ o) (h4 : nget G.c G.K o.toNat = some b) (h5 : (∀ a, nget G.c G.K p.toNat = some a → ¬ Rch G.W b a)) (h6 : ((G.c b).di || (G.c b).pe) = true) (h7 : w.heap.size ≤ s) (h8 : KnG s G p.toNat a G2) (h9 : Cv S g bits room Q N (gAf G2 a b) q ft F w') (h10 : Cch Q G (gAf G2 a b) F F w w'), motive (.returned (.int .i64 0)) w' (AfR.ok h1 h2 h3 h4 h5 h6 h7 h8 h9 h10))
    {e : Ending} {w' : World} (h : AfR S g bits room Q N G q ft F w p o e w') : motive e w' h := by
  rcases h with ⟨h1, h2, rfl⟩ | ⟨h1, h2, h3, h4, rfl⟩ | ⟨h1, h2, h3, h4, h5, rfl⟩ | ⟨a, b, h1, h2, h3, h4, h5, h6, h7, rfl⟩ | ⟨b, h1, h2, h3, h4, h5, h6, h7, rfl⟩ | ⟨s, a, b, G2, h1, h2, h3, h4, h5, h6, h7, h8, h9, h10, rfl⟩
  · exact arg h1 h2
  · exact same h1 h2 h3 h4
  · exact nil h1 h2 h3 h4 h5
  · exact loop h1 h2 h3 h4 h5 h6 h7
  · exact idle h1 h2 h3 h4 h5 h6 h7
  · exact ok h1 h2 h3 h4 h5 h6 h7 h8 h9 h10
theorem gNew_W {G : Gc} {b k wm rm : Nat} (h : G.W b = []) : (gNew G b k wm rm).W = G.W := by
  show upd G.W b [] = G.W
  rw [← h]; exact upd_self _ _
section
variable {S : ByteArray} {g bits room Q N : Nat} {G G2 : Gc} {q : Gf} {ft : List (Int × Int)} {F : Nat → Prop} {w : World}
theorem kn_rch (h : Cv S g bits room Q N G q ft F w) {s k a b : Nat} (hs : w.heap.size ≤ s) (hg : KnG s G k a G2) (hb : b ∈ G.K) (hno : ∀ a', nget G.c G.K k = some a' → ¬ Rch G.W b a') : ¬ Rch G2.W b a ∧ b ∈ G2.K ∧ G2.c b = G.c b ∧ (∀ x y, y ∈ G2.W x → x ∈ G2.K ∧ y ∈ G2.K) := by
  rcases hg with ⟨hn, rfl⟩ | ⟨hn, wm, rm, h1, h2, h3, h4⟩
  · exact ⟨hno a hn, hb, rfl, fun x y hy => h.iv.wk x y hy⟩
  · have hlt : ∀ x ∈ G.B, x < w.heap.size := fun x hx => h.cm.lt (.inr (.inr (.inr (.inr (.inr ⟨x, hx, .inl rfl⟩)))))
    have haB : a ∉ G.B := fun e => by have := hlt a e; omega
    have hWa : G.W a = [] := by
      cases e : G.W a with
      | nil => rfl
      | cons y l => exact absurd (h.iv.kb a (h.iv.wk a y (by rw [e]; exact List.mem_cons_self)).1) haB
    have hW : G2.W = G.W := by rw [h4]; exact gNew_W (k := k) (wm := wm) (rm := rm) hWa
    rw [hW]
    refine ⟨fun hr => ?_, by rw [h4]; exact List.mem_append_left _ hb, ?_, fun x y hy => ?_⟩
    · obtain ⟨c, hc, _⟩ := hr.last
      exact haB (h.iv.kb a (h.iv.wk c a hc).2)
    · rw [h4]
      have : b ≠ a := fun e => haB (e ▸ h.iv.kb b hb)
      exact upd_other _ _ this
    · rw [h4]
      exact ⟨List.mem_append_left _ (h.iv.wk x y hy).1, List.mem_append_left _ (h.iv.wk x y hy).2⟩
/-- known, then waitFor. -/
theorem knw_any (h : Cv S g bits room Q N G q ft F w) (k b : Nat) (hk : k < 268435456 / 2 ^ bits) (hb : b ∈ G.K) (hne : (G.c b).n ≠ k) (hno : ∀ a', nget G.c G.K k = some a' → ¬ Rch G.W b a') (hu : ((G.c b).di || (G.c b).pe) = true) :
    Calls Tryz.prog 68 #[ptr Q, .int .i64 k] w fun e w' => ∃ a G2, e = .returned (ptr a) ∧ KnG w.heap.size G k a G2 ∧ Calls Tryz.prog 69 #[ptr a, ptr b] w' fun e w'' => e = .returned (.tuple #[]) ∧ Cv S g bits room Q N (gAf G2 a b) q ft F w'' ∧ Cch Q G (gAf G2 a b) F F w w'' := by
  refine (known_any h.cm h.iv.wb.1 h.iv.wb.2 k).mono ?_
  rintro e w1 ⟨a, G2, hg, rfl, hc, hkp⟩
  refine ⟨a, G2, rfl, hg, ?_⟩
  obtain ⟨v1, c1, haK, hna⟩ := h.kn hk (Nat.le_refl _) hg hc hkp
  obtain ⟨r1, r2, r3, r4⟩ := kn_rch h (Nat.le_refl _) hg hb hno
  have hba : b ≠ a := fun e => by
    subst e
    rw [r3] at hna
    exact hne hna
  refine (wait_any v1.cm a b (v1.iv.kb a haK) (v1.iv.kb b r2) (fun x hx e => v1.cm.ks.nin x (r4 a x hx).2 b r2 e) (fun x hx e => v1.cm.ks.nin x (r4 x b ((v1.iv.wr x b).2 hx)).1 a haK e)).mono ?_
  rintro e w2 ⟨rfl, hc2, hk2⟩
  obtain ⟨v2, c2⟩ := v1.af haK r2 hba r1 (by rw [r3]; exact hu) hc2 hk2
  exact ⟨rfl, v2, c1.trans c2⟩
theorem mayn_nat {bits : Nat} {k : Int} (h : mayn bits k = true) : ∃ m : Nat, k = (m : Int) ∧ m < 268435456 / 2 ^ bits := by
  unfold mayn at h
  rw [Bool.and_eq_true] at h
  have h1 := of_decide_eq_true h.1
  have h2 := of_decide_eq_true h.2
  exact ⟨k.toNat, by omega, by omega⟩
set_option maxHeartbeats 8000000 in
set_option maxRecDepth 100000 in
theorem after_any (h : Cv S g bits room Q N G q ft F w) (p o : Int) :
    Calls Tryz.prog 23 #[ptr Q, .int .i64 p, .int .i64 o] w (AfR S g bits room Q N G q ft F w p o) := by
  have HN := hid h.live
  have HMp := hid (h.maya p)
  have HMo := hid (h.maya o)
  have HH := hid h
  have z4 := h.cm.st.cell 4
  simp at z4
  by_cases hp : mayn bits p = true
  · rw [hp] at HMp
    by_cases ho : mayn bits o = true
    · rw [ho] at HMo
      obtain ⟨m, rfl, hm⟩ := mayn_nat hp
      obtain ⟨n, rfl, hn⟩ := mayn_nat ho
      by_cases hmn : m = n
      · subst hmn
        clear h
        unfold ptr at *
        go_enter Tryz.func23, Tryz.ntmps23
        go_wp2_with (first
          | (go_at_call 64; refine HN.out.mono ?_; rintro e w' ⟨rfl, h⟩; replace h := h.symm; subst h))
        refine HMp.out.mono ?_
        rintro e w' ⟨rfl, h⟩; replace h := h.symm; subst h
        go_wp2_with fail
        refine HMo.out.mono ?_
        rintro e w' ⟨rfl, h⟩; replace h := h.symm; subst h
        go_wp2_with fail
        go_ret
        exact .same hp ho rfl (Kp.refl _ _)
      · have hmn2 : decide ((m : Int) = (n : Int)) = false := by simp; omega
        have hmn3 : ¬ ((m : Int) = (n : Int)) := by omega
        cases hb : nget G.c G.K n with
        | none =>
          have hl := run_lookup_mn h.cm.ks n
          rw [nval_no hb] at hl
          clear h
          unfold ptr at *
          go_enter Tryz.func23, Tryz.ntmps23
          go_wp2_with (first
            | (go_at_call 64; refine HN.out.mono ?_; rintro e w' ⟨rfl, h⟩; replace h := h.symm; subst h))
          refine HMp.out.mono ?_
          rintro e w' ⟨rfl, h⟩; replace h := h.symm; subst h
          go_wp2_with fail
          refine HMo.out.mono ?_
          rintro e w' ⟨rfl, h⟩; replace h := h.symm; subst h
          go_wp2_with fail
          go_ret
          exact .nil hp ho hmn3 hb (Kp.refl _ _)
        | some b =>
          obtain ⟨hbK, hbn⟩ := nget_mem hb
          have hbB := h.iv.kb b hbK
          have hl := run_lookup_mn h.cm.ks n
          rw [nval_of hb] at hl
          have HU : Hid (∀ w1, Kp (fun _ => False) w w1 → Calls Tryz.prog 67 #[ptr b] w1 fun e w' => e = .returned (.bool ((G.c b).di || (G.c b).pe)) ∧ w' = w1) := fun w1 k1 => by
            obtain ⟨s, hs⟩ := ((h.cm.kp0 k1).pg b hbB).wt
            exact unsettled_any G.c w1 b s hs
          have HKW : Hid (∀ w1, Kp (fun _ => False) w w1 → (∀ a', nget G.c G.K m = some a' → ¬ Rch G.W b a') → ((G.c b).di || (G.c b).pe) = true → Calls Tryz.prog 68 #[ptr Q, .int .i64 m] w1 fun e w' => ∃ a G2, e = .returned (ptr a) ∧ KnG w1.heap.size G m a G2 ∧ Calls Tryz.prog 69 #[ptr a, ptr b] w' fun e w'' => e = .returned (.tuple #[]) ∧ Cv S g bits room Q N (gAf G2 a b) q ft F w'' ∧ Cch Q G (gAf G2 a b) F F w1 w'') := fun w1 k1 hno hu =>
            knw_any (h.kp0 k1) m b hm hbK (by omega) hno hu
          cases ha : nget G.c G.K m with
          | none =>
            have hl2 := run_lookup_mn h.cm.ks m
            rw [nval_no ha] at hl2
            have hno : ∀ a', nget G.c G.K m = some a' → ¬ Rch G.W b a' := fun a' e => by rw [ha] at e; cases e
            clear h
            unfold ptr at *
            go_enter Tryz.func23, Tryz.ntmps23
            go_wp2_with (first
              | (go_at_call 64; refine HN.out.mono ?_; rintro e w' ⟨rfl, h⟩; replace h := h.symm; subst h))
            refine HMp.out.mono ?_
            rintro e w' ⟨rfl, h⟩; replace h := h.symm; subst h
            go_wp2_with fail
            refine HMo.out.mono ?_
            rintro e w' ⟨rfl, h⟩; replace h := h.symm; subst h
            cases hu : ((G.c b).di || (G.c b).pe) with
            | false =>
              rw [hu] at HU
              have HU1 := hid (HU.out w (Kp.refl _ _))
              clear HU HKW
              go_wp2_with (first
                | (go_at_call 67; refine HU1.out.mono ?_; rintro e w' ⟨rfl, h⟩; replace h := h.symm; subst h))
              go_ret
              exact .idle hp ho hmn3 hb hno hu (Kp.refl _ _)
            | true =>
              rw [hu] at HU
              have HU1 := hid (HU.out w (Kp.refl _ _))
              have HK1 := hid (HKW.out w (Kp.refl _ _) hno hu)
              clear HU HKW
              go_wp2_with (first
                | (go_at_call 67; refine HU1.out.mono ?_; rintro e w' ⟨rfl, h⟩; replace h := h.symm; subst h)
                | (go_at_call 68; refine HK1.out.mono ?_; rintro _ w2 ⟨a, G2, rfl, hg, hw⟩; have HG := hid hg; have HW := hid hw; clear hg hw)
                | (go_at_call 69; refine HW.out.mono ?_; rintro _ w3 ⟨rfl, hv, hc⟩))
              go_ret
              exact .ok hp ho hmn3 hb hno hu (Nat.le_refl _) HG.out hv hc
          | some a =>
            obtain ⟨haK, han⟩ := nget_mem ha
            have hl2 := run_lookup_mn h.cm.ks m
            rw [nval_of ha] at hl2
            have HL := hid (leads_any h b a hbB (h.iv.kb a haK))
            clear h
            unfold ptr at *
            go_enter Tryz.func23, Tryz.ntmps23
            go_wp2_with (first
              | (go_at_call 64; refine HN.out.mono ?_; rintro e w' ⟨rfl, h⟩; replace h := h.symm; subst h))
            refine HMp.out.mono ?_
            rintro e w' ⟨rfl, h⟩; replace h := h.symm; subst h
            go_wp2_with fail
            refine HMo.out.mono ?_
            rintro e w' ⟨rfl, h⟩; replace h := h.symm; subst h
            go_wp2_with fail
            refine HL.out.mono ?_
            rintro _ w1 ⟨r, rfl, hr, k1⟩
            cases r with
            | true =>
              go_wp2_with fail
              go_ret
              exact .loop hp ho hmn3 hb ha (hr.1 (by first | rfl | trivial)) k1
            | false =>
              have hno : ∀ a', nget G.c G.K m = some a' → ¬ Rch G.W b a' := fun a' e hx => by
                rw [ha] at e
                cases e
                exact Bool.false_ne_true (hr.2 hx)
              have HK0 := hid k1
              cases hu : ((G.c b).di || (G.c b).pe) with
              | false =>
                rw [hu] at HU
                have HU1 := hid (HU.out w1 k1)
                clear HU HKW k1 hr
                go_wp2_with (first
                  | (go_at_call 67; refine HU1.out.mono ?_; rintro e w' ⟨rfl, h⟩; replace h := h.symm; subst h))
                go_ret
                exact .idle hp ho hmn3 hb hno hu HK0.out
              | true =>
                rw [hu] at HU
                have HU1 := hid (HU.out w1 k1)
                have HK1 := hid (HKW.out w1 k1 hno hu)
                clear HU HKW k1 hr
                go_wp2_with (first
                  | (go_at_call 67; refine HU1.out.mono ?_; rintro e w' ⟨rfl, h⟩; replace h := h.symm; subst h)
                  | (go_at_call 68; refine HK1.out.mono ?_; rintro _ w2 ⟨a2, G2, rfl, hg, hw⟩; have HG := hid hg; have HW := hid hw; clear hg hw)
                  | (go_at_call 69; refine HW.out.mono ?_; rintro _ w3 ⟨rfl, hv, hc⟩))
                go_ret
                exact .ok hp ho hmn3 hb hno hu HK0.out.size HG.out hv (Cch.pre HK0.out hc)
    · have ho2 : mayn bits o = false := by simpa using ho
      rw [ho2] at HMo
      clear h
      unfold ptr at *
      go_enter Tryz.func23, Tryz.ntmps23
      go_wp2_with (first
        | (go_at_call 64; refine HN.out.mono ?_; rintro e w' ⟨rfl, h⟩; replace h := h.symm; subst h))
      refine HMp.out.mono ?_
      rintro e w' ⟨rfl, h⟩; replace h := h.symm; subst h
      go_wp2_with fail
      refine HMo.out.mono ?_
      rintro e w' ⟨rfl, h⟩; replace h := h.symm; subst h
      go_wp2_with fail
      go_ret
      exact .arg (by rw [ho2]; simp) (Kp.refl _ _)
  · have hp2 : mayn bits p = false := by simpa using hp
    rw [hp2] at HMp
    clear h
    unfold ptr at *
    go_enter Tryz.func23, Tryz.ntmps23
    go_wp2_with (first
      | (go_at_call 64; refine HN.out.mono ?_; rintro e w' ⟨rfl, h⟩; replace h := h.symm; subst h)
      | (go_at_call 65; refine HMp.out.mono ?_; rintro e w' ⟨rfl, h⟩; replace h := h.symm; subst h))
    go_ret
    exact .arg (by rw [hp2]; simp) (Kp.refl _ _)
end
end Go.Proofs.YtnccklbnncaeoaaGreat
