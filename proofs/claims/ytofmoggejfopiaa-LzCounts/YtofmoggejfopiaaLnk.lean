/- Contract of linked: a list that links each place to the last one with the same three bytes. -/
import Derived.Test.YtofmoggejfopiaaLkm
import Derived.Test.YtofmoggejfopiaaNx
namespace Go.Proofs.Ytofmoggejfopiaa
open Go.RowKit Go.WideMaps

/-- The map tells the last places below k. -/
def MS (b : Nat → Int) (k : Nat) (D : DataW Unit) : Prop := ∀ t, B3 t → match lastp b k t with
  | none => ∀ z, D.atKey (kl3 t) z = z
  | some i => ∀ z, D.atKey (kl3 t) z = .lit (.int .i64 (i : Int))
theorem MS.zero (b : Nat → Int) : MS b 0 (.map []) := fun _ _ => fun _ => rfl
theorem MS.put {b : Nat → Int} {k : Nat} {D : DataW Unit} (h : MS b k D) (hD : ∃ es, D = .map es) (hb : B3 (T3 b k)) : MS b (k + 1) (D.put (kl3 (T3 b k)) (.lit (.int .i64 (k : Int)))) := by
  intro t ht
  unfold lastp
  by_cases he : T3 b k = t
  · rw [if_pos he, ← he]
    exact fun z => Maps.atKey_put_same hD (Try.law92.key (key3 hb)) _ _
  · rw [if_neg he]
    have hne : kl3 t ≠ kl3 (T3 b k) := fun e => he (kl3_inj hb ht e.symm)
    have := h t ht
    cases hl : lastp b k t with
    | none => rw [hl] at this; exact fun z => (Maps.atKey_put_other hne _ _).trans (this z)
    | some i => rw [hl] at this; exact fun z => (Maps.atKey_put_other hne _ _).trans (this z)
theorem look3 {w : World} {bm n k : Nat} {D : DataW Unit} {b : Nat → Int} {t : Int × Int × Int} (h : w.ownsMap Try.prog 92 (plainElem Try.prog 3) bm n D) (hM : MS b k D) (ht : B3 t) :
    (Instr.lookup 91 (.map (some bm)) (kv3 t) true).run Try.prog w = .ok (match lastp b k t with | none => .tuple #[.int .i64 0, .bool false] | some i => .tuple #[.int .i64 (i : Int), .bool true]) w := by
  obtain ⟨es, clock, hb, F, _, rfl⟩ := h
  have hm := hM t ht
  rcases Maps.fit_look true Try.law92 Try.underlying91 (z := .int .i64 0) (by rfl) hb F (key3 ht) with ⟨hrun, _, hat⟩ | ⟨e0, y, _, _, hrun, hRv, hat, _⟩
  · cases hl : lastp b k t with
    | none => exact hrun
    | some i =>
      rw [hl] at hm
      have h1 := (hat .nil).symm.trans (hm .nil)
      cases h1
  · obtain ⟨c, hev, hc, _⟩ := plainElem_int_inv Try.underlying3 hRv
    rw [hev] at hrun
    cases hl : lastp b k t with
    | none =>
      rw [hl] at hm
      have h1 := (hm .nil).symm.trans (hat .nil)
      rw [hc] at h1
      cases h1
    | some i =>
      rw [hl] at hm
      have h1 := (hm .nil).symm.trans (hat .nil)
      rw [hc] at h1
      simp only [DataW.lit.injEq, Lit.int.injEq, true_and] at h1
      rw [← h1] at hrun
      exact hrun
theorem b3_of {zs : List Int} (h : Byt zs) (k : Nat) : B3 (T3 (bf zs) k) := ⟨h.get _, h.get _, h.get _⟩
theorem Try.info94 : (Try.prog.info? 94).map (fun i => (i.zero, i.size, i.bytes)) = some (some (.int .u16 0), 1, 2) := by kernel_rfl
/-- What linked goes over from round to round. -/
structure LR (zs : List Int) (w wr : World) (M bm k : Nat) : Prop where
  res : St 71 wr w.heap.size #[.slice none 0 0, .slice none 0 0]
  row : Rw .u16 94 wr (w.heap.size + 1) (lrow (bf zs) M k)
  map : ∃ D : DataW Unit, wr.ownsMap Try.prog 92 (plainElem Try.prog 3) bm k D ∧ MS (bf zs) k D
  bel : Below w.heap.size w wr
theorem grown_setCell (w : World) (g i : Nat) (v : Value) : w.grownBy (w.setCell ⟨g, i, none⟩ v) (some g) :=
  ⟨rfl, rfl, rfl, by simp, fun k _ hk => heap_setCell_other w ⟨g, i, none⟩ k v (fun e => hk (by rw [e]))⟩
theorem LR.alloc {zs : List Int} {w wr : World} {M bm k : Nat} (h : LR zs w wr M bm k) (o : Obj) : LR zs w (wr.alloc o).drew M bm k := by
  obtain ⟨D, ho, hm⟩ := h.map
  have hk : Kp (fun _ => False) wr (wr.alloc o).drew := ((Kp.refl (fun _ => False) wr).alloc o).drew
  exact ⟨h.res.kp hk (fun x => x), h.row.kp hk (fun x => x), ⟨D, (ho.alloc o).drew, hm⟩, (h.bel.alloc h.bel.size o).drew⟩
/-- The link of k is told: to the row, then to the map. -/
theorem LR.upd {zs : List Int} {w W W2 W3 : World} {M bm k : Nat} {D : DataW Unit} (h : LR zs w W M bm k) (hbm : w.heap.size + 2 ≤ bm) (hk2 : Kp (fun i => i = w.heap.size + 1) W W2) (row : Rw .u16 94 W2 (w.heap.size + 1) (lrow (bf zs) M (k + 1)))
    (own3 : W3.ownsMap Try.prog 92 (plainElem Try.prog 3) bm (k + 1) (D.put (kl3 (T3 (bf zs) k)) (.lit (.int .i64 (k : Int))))) (hg : W2.grownBy W3 (some bm)) (hms : MS (bf zs) k D) (hD : ∃ es, D = .map es) (hb3 : B3 (T3 (bf zs) k)) : LR zs w W3 M bm (k + 1) := by
  have hk3 : Kp (fun i => i = bm) W2 W3 := Kp.of_grown hg (fun i e => by cases e; rfl)
  exact ⟨(h.res.kp hk2 (by omega)).kp hk3 (by omega), row.kp hk3 (by omega), ⟨_, own3, hms.put hD hb3⟩, (h.bel.trans (hk2.below h.bel.size (fun i e => by omega))).trans (hk3.below (Nat.le_trans h.bel.size hk2.size) (fun i e => by omega))⟩
theorem owns_isMap {w : World} {bm n : Nat} {D : DataW Unit} (h : w.ownsMap Try.prog 92 (plainElem Try.prog 3) bm n D) : ∃ es, D = .map es := by
  obtain ⟨es, c, _, _, _, h⟩ := h
  exact ⟨_, h⟩
theorem wf_i64 {a : Nat} (h : a ≤ 4000000000000000000) : (Lit.int .i64 (a : Int)).wf = true := by
  simp [Lit.wf, IntKind.min, IntKind.max, IntKind.bits, IntKind.signed]; omega
theorem wrap_u16 (a : Nat) (h : a ≤ 60000) : IntKind.u16.wrap (a : Int) = (a : Int) := by
  simp [IntKind.wrap, IntKind.bits, IntKind.signed]; omega
set_option maxRecDepth 100000 in
set_option maxHeartbeats 4000000 in
theorem linked_any (zs : List Int) (ao : Option Addr) (cap : Nat) (w : World) (hB : Byt zs) (hN : zs.length ≤ 2000000) (hS : Src .u8 w ao zs) :
    Calls Try.prog 35 #[.slice ao zs.length cap] w fun e w' => ∃ bo bl bc, e = .returned (.agg #[.slice ao zs.length cap, .slice bo bl bc]) ∧ LkV w' zs.length (.slice bo bl bc) (lkf (bf zs)) ∧ Below w.heap.size w w' ∧ (3 ≤ zs.length → ∃ B, bo = some ⟨B, 0, none⟩ ∧ w.heap.size ≤ B) := by
  obtain ⟨N, hNe⟩ : ∃ x, x = zs.length := ⟨_, rfl⟩
  obtain ⟨M, hM⟩ : ∃ x, x = N - 2 := ⟨_, rfl⟩
  have HNE : Hid (N = zs.length ∧ M = N - 2) := ⟨hNe, hM⟩
  have HB : Hid (Byt zs) := hB
  have HS : Hid (Src .u8 w ao zs) := hS
  rw [← hNe] at hN ⊢
  have a1 : IntKind.i64.wrap ((N : Int) - 3) = (N : Int) - 3 := by rw [IntKind.wrap_i64]; omega
  have hmm := @run_makeMap Try.prog
  by_cases hN2 : 3 ≤ N
  · have a2 : IntKind.i64.wrap ((N : Int) - 3 + 1) = (M : Int) := by rw [IntKind.wrap_i64]; omega
    have hM2 : M ≤ 2000000 := by omega
    have hM0 : 0 < M := by omega
    clear hNe hM hB hS
    go_enter Try.func35, Try.ntmps35
    go_wp2_with (first | (at_make; refine wpList_make_rw (κ := .u16) 69 94 2 Try.underlying69 Try.info94 (by decide) rfl (.tmp 13) (.tmp 13) rfl M rfl rfl (by omega) ?_; intro w1 r1 b1))
    have hb1 : Below w.heap.size w w1 := ((Below.refl _ w).alloc (Nat.le_refl _) _).trans (b1.mono (by simp))
    have hst1 : St 71 w1 w.heap.size #[.slice none 0 0, .slice none 0 0] := (St.new 71 w _).below b1 (by simp)
    have hbm : w.heap.size + 2 ≤ w1.heap.size := by have := r1.lt; simp at this; omega
    have hLR : LR zs w (w1.alloc (.map #[] 0)) M w1.heap.size 0 := by
      refine ⟨hst1.below ((Below.refl _ _).alloc (Nat.le_refl _) _) hst1.lt, ?_, ⟨.map [], World.ownsMap_made w1 _ _ _, MS.zero _⟩, hb1.alloc hb1.size _⟩
      rw [lrow_zero]
      have := r1.alloc (.map #[] 0)
      simpa using this
    generalize w1.heap.size = bm at hbm hLR ⊢
    clear r1 b1 hb1 hst1
    go_loopw [5, 6, 7, 8, 18] (fun _ _ _ _ u18 wr => ∃ k : Nat, k ≤ M ∧ u18 = .int .i64 (k : Int) ∧ LR zs w wr M bm k) (fun _ _ _ _ u18 _ => M - (intOf u18).toNat)
    case atStart => exact ⟨0, Nat.zero_le _, rfl, hLR⟩
    case round =>
      clear hLR
      obtain ⟨k, hkM, rfl, hlr⟩ := hrel
      have HLR : Hid (LR zs w wr M bm k) := hlr
      by_cases hlt : k < M
      · obtain ⟨gb, off, hao, hcs⟩ := HS.out (by have := HNE.out; omega)
        subst hao
        have hsr : Src .u8 wr (some ⟨gb, off, none⟩) zs := HS.out.below hlr.bel
        have x0 := hsr.at k (by have := HNE.out; omega)
        have x1 := hsr.at (k + 1) (by have := HNE.out; omega)
        have x2 := hsr.at (k + 2) (by have := HNE.out; omega)
        obtain ⟨D, hown, hms⟩ := hlr.map
        obtain ⟨X, hX⟩ : ∃ X, X = zs.getD k 0 := ⟨_, rfl⟩
        obtain ⟨Y, hY⟩ : ∃ Y, Y = zs.getD (k + 1) 0 := ⟨_, rfl⟩
        obtain ⟨Z, hZ⟩ : ∃ Z, Z = zs.getD (k + 2) 0 := ⟨_, rfl⟩
        rw [← hX] at x0
        rw [← hY] at x1
        rw [← hZ] at x2
        have HT : Hid ((X, Y, Z) = T3 (bf zs) k) := by show _ = _; rw [hX, hY, hZ]; rfl
        have HMS : Hid (MS (bf zs) k D) := hms
        have HOW : Hid (wr.ownsMap Try.prog 92 (plainElem Try.prog 3) bm k D) := hown
        obtain ⟨k1, hk1⟩ : ∃ x, x = k + 1 := ⟨_, rfl⟩
        obtain ⟨k2, hk2⟩ : ∃ x, x = k + 2 := ⟨_, rfl⟩
        rw [← hk1] at x1
        rw [← hk2] at x2
        have e1 : IntKind.i64.wrap ((k : Int) + 1) = (k1 : Int) := by rw [IntKind.wrap_i64]; omega
        have e2 : IntKind.i64.wrap ((k : Int) + 2) = (k2 : Int) := by rw [IntKind.wrap_i64]; omega
        have l0 : k < N := by have := HNE.out; omega
        have l1 : k1 < N := by have := HNE.out; omega
        have l2 : k2 < N := by have := HNE.out; omega
        have HK1 : Hid (k1 = k + 1) := hk1
        have HLR0 : Hid (w.heap.size + 2 ≤ wr.heap.size) := by show _ ≤ _; have := hlr.row.lt; omega
        clear hX hY hZ hms hown hsr hcs hlr hk1 hk2
        go_wp2_with fail
        go_region_held3 (fun w' => w'.cell? ⟨gb, off + k, none⟩ = some (.int .u8 X) ∧ w'.cell? ⟨gb, off + k1, none⟩ = some (.int .u8 Y) ∧ w'.cell? ⟨gb, off + k2, none⟩ = some (.int .u8 Z)) (first | (exact ⟨x0, x1, x2⟩) | go_keep) (fail)
        have hLR1 := HLR.out.alloc (.cells #[.int .u8 X, .int .u8 Y, .int .u8 Z] 92)
        have own1 := (HOW.out.alloc (.cells #[.int .u8 X, .int .u8 Y, .int .u8 Z] 92)).drew
        have st6 : St 92 (wr.alloc (.cells #[.int .u8 X, .int .u8 Y, .int .u8 Z] 92)).drew wr.heap.size #[.int .u8 X, .int .u8 Y, .int .u8 Z] := St.new 92 wr _
        generalize (wr.alloc (.cells #[.int .u8 X, .int .u8 Y, .int .u8 Z] 92)).drew = W1 at hLR1 own1 st6 ⊢
        have hb3 : B3 (T3 (bf zs) k) := b3_of HB.out k
        have hrun := look3 own1 HMS.out hb3
        have hkey := key3 hb3
        have hkv : kv3 (T3 (bf zs) k) = .agg #[.int .u8 X, .int .u8 Y, .int .u8 Z] := by rw [← HT.out]; rfl
        rw [hkv] at hrun hkey
        have t0 : W1.cell? ⟨wr.heap.size, 0, none⟩ = some (.int .u8 X) := st6.cell 0
        have t1 : W1.cell? ⟨wr.heap.size, 1, none⟩ = some (.int .u8 Y) := st6.cell 1
        have t2 : W1.cell? ⟨wr.heap.size, 2, none⟩ = some (.int .u8 Z) := st6.cell 2
        have hval : plainElem (H := Unit) Try.prog 3 (.int .i64 (k : Int)) = some (.lit (.int .i64 (k : Int)), []) := plainElem_int Try.underlying3 (wf_i64 (by omega))
        have hmx : k < maxLen := by unfold maxLen; omega
        have HLR1 : Hid (LR zs w W1 M bm k) := hLR1
        have HO1 : Hid (W1.ownsMap Try.prog 92 (plainElem Try.prog 3) bm k D) := own1
        have HKEY : Hid (keyOf Try.prog 92 (.agg #[.int .u8 X, .int .u8 Y, .int .u8 Z]) = some (kl3 (T3 (bf zs) k))) := hkey
        have HVAL : Hid (plainElem (H := Unit) Try.prog 3 (.int .i64 (k : Int)) = some (.lit (.int .i64 (k : Int)), [])) := hval
        have HB3 : Hid (B3 (T3 (bf zs) k)) := hb3
        clear hLR1 own1 hkv hkey hval HLR HOW hb3 x0 x1 x2 e1 e2
        cases hl : lastp (bf zs) k (T3 (bf zs) k) with
        | none =>
          rw [hl] at hrun
          have HL0 : Hid (lkf (bf zs) k = 0) := lkf_none hl
          clear hl
          dsimp only at hrun
          go_wp2_with (first | (at_mapUpdate; refine wpList_mapUpdate_own _ rfl _ _ _ 91 rfl 92 3 Try.law92 Try.underlying91 _ bm k D rfl HO1.out hmx _ _ (kl3 (T3 (bf zs) k)) rfl rfl HKEY.out (.lit (.int .i64 (k : Int))) [] HVAL.out ?_; intro w3 hown3 hgrow3))
          exact ⟨⟨k + 1, hlt, by simp, HLR1.out.upd hbm (Kp.refl _ _) (by rw [← lrow_same _ _ _ HL0.out]; exact HLR1.out.row) hown3 hgrow3 HMS.out (owns_isMap HO1.out) HB3.out⟩, by simp [intOf]; omega⟩
        | some i =>
          rw [hl] at hrun
          have hik := (lastp_some hl).1
          obtain ⟨d, hd⟩ : ∃ x, x = k - i := ⟨_, rfl⟩
          have HLF : Hid (lkf (bf zs) k = if d ≤ 32768 then d else 0) := by show _ = _; rw [hd]; exact lkf_some hl
          have e3 : IntKind.i64.wrap ((k : Int) - (i : Int)) = (d : Int) := by rw [IntKind.wrap_i64]; omega
          clear hl hd
          dsimp only at hrun
          by_cases hd2 : d ≤ 32768
          · have HL1 : Hid (lkf (bf zs) k = d) := by show _ = _; rw [HLF.out, if_pos hd2]
            have e4 : IntKind.u16.wrap (d : Int) = (d : Int) := wrap_u16 _ (by omega)
            have y0 : W1.cell? ⟨w.heap.size + 1, k, none⟩ = some (.int .u16 ((lrow (bf zs) M k).getD k 0)) := HLR1.out.row.cell k (by rw [lrow_len]; exact hlt)
            have y1 : W1.frozen? ⟨w.heap.size + 1, k, none⟩ = false := HLR1.out.row.frozen k
            generalize (lrow (bf zs) M k).getD k 0 = old at y0
            have HO2 : Hid ((W1.setCell ⟨w.heap.size + 1, k, none⟩ (.int .u16 (d : Int))).ownsMap Try.prog 92 (plainElem Try.prog 3) bm k D) := HO1.out.kept (grown_setCell _ _ _ _) (fun e => by simp at e; omega)
            have q0 : (W1.setCell ⟨w.heap.size + 1, k, none⟩ (.int .u16 (d : Int))).cell? ⟨wr.heap.size, 0, none⟩ = some (.int .u8 X) := (grown_setCell W1 (w.heap.size + 1) k (.int .u16 (d : Int))).cell t0 (fun e => by have := HLR0.out; simp at e; omega)
            have q1 : (W1.setCell ⟨w.heap.size + 1, k, none⟩ (.int .u16 (d : Int))).cell? ⟨wr.heap.size, 1, none⟩ = some (.int .u8 Y) := (grown_setCell W1 (w.heap.size + 1) k (.int .u16 (d : Int))).cell t1 (fun e => by have := HLR0.out; simp at e; omega)
            have q2 : (W1.setCell ⟨w.heap.size + 1, k, none⟩ (.int .u16 (d : Int))).cell? ⟨wr.heap.size, 2, none⟩ = some (.int .u8 Z) := (grown_setCell W1 (w.heap.size + 1) k (.int .u16 (d : Int))).cell t2 (fun e => by have := HLR0.out; simp at e; omega)
            go_wp2_with (first | (at_mapUpdate; refine wpList_mapUpdate_own _ rfl _ _ _ 91 rfl 92 3 Try.law92 Try.underlying91 _ bm k D rfl HO2.out hmx _ _ (kl3 (T3 (bf zs) k)) rfl rfl HKEY.out (.lit (.int .i64 (k : Int))) [] HVAL.out ?_; intro w3 hown3 hgrow3))
            have hrow := HLR1.out.row.set k (d : Int)
            rw [← HL1.out, lrow_set, HL1.out] at hrow
            exact ⟨⟨k + 1, hlt, by simp, HLR1.out.upd hbm (kp_setCell _ _ _ _ (fun i => i = w.heap.size + 1) rfl) hrow hown3 hgrow3 HMS.out (owns_isMap HO1.out) HB3.out⟩, by simp [intOf]; omega⟩
          · have HL0 : Hid (lkf (bf zs) k = 0) := by show _ = _; rw [HLF.out, if_neg hd2]
            go_wp2_with (first | (at_mapUpdate; refine wpList_mapUpdate_own _ rfl _ _ _ 91 rfl 92 3 Try.law92 Try.underlying91 _ bm k D rfl HO1.out hmx _ _ (kl3 (T3 (bf zs) k)) rfl rfl HKEY.out (.lit (.int .i64 (k : Int))) [] HVAL.out ?_; intro w3 hown3 hgrow3))
            exact ⟨⟨k + 1, hlt, by simp, HLR1.out.upd hbm (Kp.refl _ _) (by rw [← lrow_same _ _ _ HL0.out]; exact HLR1.out.row) hown3 hgrow3 HMS.out (owns_isMap HO1.out) HB3.out⟩, by simp [intOf]; omega⟩
      · obtain rfl : k = M := by omega
        have r0 : wr.cell? ⟨w.heap.size, 0, none⟩ = some (.slice none 0 0) := hlr.res.cell 0
        have r1 : wr.cell? ⟨w.heap.size, 1, none⟩ = some (.slice none 0 0) := hlr.res.cell 1
        have f0 := hlr.res.frozen 0
        have f1 := hlr.res.frozen 1
        clear hlr
        go_wp2
        have hk : Kp (fun i => i = w.heap.size) wr ((wr.setCell ⟨w.heap.size, 0, none⟩ (.slice ao N cap)).setCell ⟨w.heap.size, 1, none⟩ (.slice (some ⟨w.heap.size + 1, 0, none⟩) k k)) :=
          (kp_setCell _ _ _ _ (fun i => i = w.heap.size) rfl).trans (kp_setCell _ _ _ _ (fun i => i = w.heap.size) rfl) (fun _ _ e => e)
        refine bodyPost_ret (v := .agg #[.slice ao N cap, .slice (some ⟨w.heap.size + 1, 0, none⟩) k k]) (by simp [results, Try.results35, go_sem, r0, r1]) rfl ⟨some ⟨w.heap.size + 1, 0, none⟩, k, k, rfl, .inr ⟨w.heap.size + 1, k, by rw [← HNE.out.2], fun q hq => ⟨?_, lkf_le _ _⟩⟩, HLR.out.bel.trans (hk.below HLR.out.bel.size (fun i e => by omega)), fun _ => ⟨_, rfl, by omega⟩⟩
        have hq2 : q < k := by have := HNE.out; omega
        have := (HLR.out.row.kp hk (by omega)).cell q (by rw [lrow_len]; exact hq2)
        rw [lrow_get _ _ _ hq2] at this
        exact this
  · obtain rfl : M = 0 := by omega
    have hN3 : N = 0 ∨ N = 1 ∨ N = 2 := by omega
    clear a1 hNe hM hB hS
    rcases hN3 with rfl | rfl | rfl
    all_goals
      go_enter Try.func35, Try.ntmps35
      go_wp2_with (first | (at_make; refine wpList_make_rw (κ := .u16) 69 94 2 Try.underlying69 Try.info94 (by decide) rfl (.tmp 13) (.tmp 13) rfl 0 rfl rfl (by omega) ?_; intro w1 r1 b1))
      have hb1 : Below w.heap.size w w1 := ((Below.refl _ w).alloc (Nat.le_refl _) _).trans (b1.mono (by simp))
      have hst1 : St 71 w1 w.heap.size #[.slice none 0 0, .slice none 0 0] := (St.new 71 w _).below b1 (by simp)
      have hst2 := hst1.below ((Below.refl w1.heap.size w1).alloc (Nat.le_refl _) (.map #[] 0)) hst1.lt
      have hb2 := hb1.alloc hb1.size (.map #[] 0)
      have r0 : (w1.alloc (.map #[] 0)).cell? ⟨w.heap.size, 0, none⟩ = some (.slice none 0 0) := hst2.cell 0
      have r1' : (w1.alloc (.map #[] 0)).cell? ⟨w.heap.size, 1, none⟩ = some (.slice none 0 0) := hst2.cell 1
      have f0 := hst2.frozen 0
      have f1 := hst2.frozen 1
      clear hst1 hst2 r1 b1 hb1
      generalize w1.alloc (.map #[] 0) = w2 at hb2 r0 r1' f0 f1 ⊢
      have HB2 : Hid (Below w.heap.size w w2) := hb2
      clear hb2
      go_loopw [5, 6, 7, 8, 18] (fun _ _ _ _ u18 wr => u18 = .int .i64 0 ∧ wr = w2) (fun _ _ _ _ u18 _ => 0)
      case atStart => exact ⟨rfl, rfl⟩
      case round =>
        obtain ⟨rfl, rfl⟩ := hrel
        go_wp2
        exact bodyPost_ret (v := .agg #[.slice ao _ cap, .slice (some ⟨w.heap.size + 1, 0, none⟩) 0 0]) (by simp [results, Try.results35, go_sem, r0, r1']) rfl ⟨some ⟨w.heap.size + 1, 0, none⟩, 0, 0, rfl, .inr ⟨w.heap.size + 1, 0, rfl, fun q hq => absurd hq (by omega)⟩, (HB2.out.setCell (p := ⟨w.heap.size, 0, none⟩) (by simp) _).setCell (p := ⟨w.heap.size, 1, none⟩) (by simp) _, fun h => absurd h (by omega)⟩
end Go.Proofs.Ytofmoggejfopiaa
