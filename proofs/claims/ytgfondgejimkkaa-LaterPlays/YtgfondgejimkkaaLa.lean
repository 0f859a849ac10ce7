/- later: add. -/
import Derived.Test.YtgfondgejimkkaaLc
namespace Go.Proofs.Ytgfondgejimkkaa
open Go.RowKit
set_option linter.unusedVariables false
set_option linter.unusedSimpArgs false
theorem sep {c : Nat → Rn} {w : World} {Q B mb me kb ke : Nat} {v : Value} {L : List Nat} {cs : Array Value} {eb ee : List (Int × Value × Nat)} (st : St 73 w Q cs) (ln : Ln c w 0 B v L) (mp1 : Mp mki w mb eb kb) (mp2 : Mp mki w me ee ke) :
    Q ≠ B ∧ (∀ b ∈ L, b ≠ Q) ∧ v.ownBlock ≠ some Q ∧ Q ≠ mb ∧ Q ≠ me ∧ mb ≠ B ∧ me ≠ B ∧ (∀ b ∈ L, b ≠ mb ∧ b ≠ me) ∧ v.ownBlock ≠ some mb ∧ v.ownBlock ≠ some me := by
  refine ⟨fun e => apart_types st (e ▸ ln.st) (by decide), fun b hb e => ?_, fun e => ?_, fun e => map_cells (e ▸ mp1.1) st, fun e => map_cells (e ▸ mp2.1) st, fun e => map_cells mp1.1 (e ▸ ln.st), fun e => map_cells mp2.1 (e ▸ ln.st), fun b hb => ⟨fun e => ?_, fun e => ?_⟩, fun e => ?_, fun e => ?_⟩
  · obtain ⟨s, hs⟩ := ln.wt hb
    exact apart_types st (e ▸ hs) (by decide)
  · obtain ⟨cur, hg, _⟩ := ownb ln.own e
    exact apart_types hg st (by decide)
  · obtain ⟨s, hs⟩ := ln.wt hb
    exact map_cells mp1.1 (e ▸ hs)
  · obtain ⟨s, hs⟩ := ln.wt hb
    exact map_cells mp2.1 (e ▸ hs)
  · obtain ⟨cur, hg, _⟩ := ownb ln.own e
    exact map_cells mp1.1 hg
  · obtain ⟨cur, hg, _⟩ := ownb ln.own e
    exact map_cells mp2.1 hg
theorem ite_pos2 {c : Prop} [Decidable c] {a b : Prop} (h : c) (k : a) : (if c then a else b) := by rw [if_pos h]; exact k
theorem ky2 : Ky Try.prog 2 (.int .i64) mki := ky_int Try.underlying2
theorem kp_putM (w : World) (b : Nat) (o : Obj) : Kp (fun i => i = b) w (w.putObj b o) := ⟨rfl, rfl, rfl, by simp, fun k _ hk => World.putObj_heap_other hk⟩
/-- An entry is made, and then its value is laid. -/
theorem entry_two {w : World} {mb k : Nat} {es : List (Int × Value × Nat)} {x : Int} (h : Mp mki w mb es k) (hn : mget es x = none) (v : Value) :
    ∃ w4, (∃ w5, Mp mki w5 mb (es ++ [(x, v, k)]) (k + 1) ∧ Kp (fun i => i = mb) w w5 ∧ (Instr.entryStore 71 (.map (some mb)) (.int .i64 (k : Int)) v).run Try.prog w4 = .ok () w5) ∧ Kp (fun i => i = mb) w w4 ∧ (Instr.mapEntry 71 (.map (some mb)) (.int .i64 x)).run Try.prog w = .ok (.tuple #[.pointer none, .int .i64 (k : Int)]) w4 := by
  have r1 := run_mapEntry_new (T := 71) ky2 Try.underlying71 h (z := .pointer none) (by kernel_rfl) x hn
  have k1 := kp_putM w mb (.map ((es ++ [(x, Value.pointer none, k)]).map (ent mki)).toArray (k + 1))
  have hb : (w.putObj mb (.map ((es ++ [(x, Value.pointer none, k)]).map (ent mki)).toArray (k + 1))).heap[mb]? = some (.map ((es ++ [(x, Value.pointer none, k)]).map (ent mki)).toArray (k + 1)) := World.putObj_heap_same h.lt
  have r2 := run_entryStore_new (P := Try.prog) (T := 71) (mk := mki) (v := v) h.2 hb
  refine ⟨_, ⟨_, ⟨World.putObj_heap_same (by rw [World.putObj_size]; exact h.lt), kok_snoc h.2 hn v⟩, ?_, r2⟩, k1, r1⟩
  exact k1.trans (kp_putM _ mb _) (fun _ _ h => h)
def q33r3_0 : Oper := { dst := some 16, op := Go.Op.move (Go.Operand.tmp 0), type := 30, pos := "later.go:214", after := #[], guard := none }
def q33r3_1 : Oper := { dst := some 17, op := Go.Op.nilCheck (Go.Operand.tmp 16), type := 0, pos := "later.go:214", after := #[{ on := 0, ground := Go.Ground.data }], guard := none }
def q33r3_2 : Oper := { dst := some 18, op := Go.Op.fieldAddr 73 (Go.Operand.tmp 17) 1, type := 0, pos := "later.go:214", after := #[{ on := 1, ground := Go.Ground.data }], guard := none }
def q33r3_3 : Oper := { dst := some 19, op := Go.Op.load 71 (Go.Operand.tmp 18), type := 71, pos := "later.go:214", after := #[{ on := 2, ground := Go.Ground.data }], guard := none }
def q33r3_4 : Oper := { dst := some 20, op := Go.Op.fieldAddr 38 (Go.Operand.tmp 3) 0, type := 0, pos := "later.go:214", after := #[], guard := none }
def q33r3_5 : Oper := { dst := some 21, op := Go.Op.load 2 (Go.Operand.tmp 20), type := 2, pos := "later.go:214", after := #[{ on := 4, ground := Go.Ground.data }], guard := none }
def q33r3_6 : Oper := { dst := some 22, op := Go.Op.move (Go.Operand.tmp 0), type := 30, pos := "later.go:214", after := #[], guard := none }
def q33r3_7 : Oper := { dst := some 23, op := Go.Op.nilCheck (Go.Operand.tmp 22), type := 0, pos := "later.go:214", after := #[{ on := 6, ground := Go.Ground.data }], guard := none }
def q33r3_8 : Oper := { dst := some 24, op := Go.Op.fieldAddr 73 (Go.Operand.tmp 23) 2, type := 0, pos := "later.go:214", after := #[{ on := 7, ground := Go.Ground.data }], guard := none }
def q33r3_9 : Oper := { dst := some 25, op := Go.Op.load 71 (Go.Operand.tmp 24), type := 71, pos := "later.go:214", after := #[{ on := 8, ground := Go.Ground.data }], guard := none }
def q33r3_10 : Oper := { dst := some 26, op := Go.Op.load 38 (Go.Operand.tmp 3), type := 38, pos := "later.go:214", after := #[], guard := none }
def q33r3_11 : Oper := { dst := some 27, op := Go.Op.call { callee := Go.Callee.value (Go.Operand.func 48), args := #[Go.Operand.tmp 26], argTypes := #[38] }, type := 2, pos := "later.go:214", after := #[{ on := 10, ground := Go.Ground.data }], guard := none }
def q33r3_12 : Oper := { dst := some 28, op := Go.Op.move (Go.Operand.tmp 4), type := 74, pos := "later.go:214", after := #[{ on := 14, ground := Go.Ground.gcOnly Go.Departure.tupleMapEntryFirst }], guard := none }
def q33r3_13 : Oper := { dst := some 29, op := Go.Op.move (Go.Operand.tmp 4), type := 74, pos := "later.go:214", after := #[{ on := 16, ground := Go.Ground.gcOnly Go.Departure.lateStores }, { on := 17, ground := Go.Ground.gcOnly Go.Departure.tupleMapEntryFirst }], guard := none }
def q33r3_14 : Oper := { dst := some 30, op := Go.Op.mapEntry 71 (Go.Operand.tmp 19) (Go.Operand.tmp 21), type := 0, pos := "later.go:214", after := #[{ on := 3, ground := Go.Ground.data }, { on := 5, ground := Go.Ground.data }, { on := 11, ground := Go.Ground.chain }, { on := 0, ground := Go.Ground.textOnly Go.Departure.tupleMapEntryFirst }, { on := 1, ground := Go.Ground.textOnly Go.Departure.tupleMapEntryFirst }, { on := 2, ground := Go.Ground.textOnly Go.Departure.tupleMapEntryFirst }, { on := 3, ground := Go.Ground.textOnly Go.Departure.tupleMapEntryFirst }, { on := 4, ground := Go.Ground.textOnly Go.Departure.tupleMapEntryFirst }, { on := 5, ground := Go.Ground.textOnly Go.Departure.tupleMapEntryFirst }, { on := 6, ground := Go.Ground.textOnly Go.Departure.lateStores }, { on := 7, ground := Go.Ground.textOnly Go.Departure.lateStoresUnsure }, { on := 8, ground := Go.Ground.textOnly Go.Departure.lateStoresUnsure }, { on := 9, ground := Go.Ground.phase }, { on := 10, ground := Go.Ground.textOnly Go.Departure.lateStores }, { on := 11, ground := Go.Ground.phase }, { on := 12, ground := Go.Ground.textOnly Go.Departure.tupleMapEntryFirst }, { on := 13, ground := Go.Ground.textOnly Go.Departure.lateStores }], guard := none }
def q33r3_15 : Oper := { dst := some 31, op := Go.Op.extract (Go.Operand.tmp 30) 1, type := 3, pos := "later.go:214", after := #[{ on := 14, ground := Go.Ground.data }], guard := none }
def q33r3_16 : Oper := { dst := none, op := Go.Op.entryStore 71 (Go.Operand.tmp 19) (Go.Operand.tmp 31) (Go.Operand.tmp 28), type := 0, pos := "later.go:214", after := #[{ on := 3, ground := Go.Ground.data }, { on := 15, ground := Go.Ground.data }, { on := 12, ground := Go.Ground.data }, { on := 14, ground := Go.Ground.chain }, { on := 0, ground := Go.Ground.phase }, { on := 1, ground := Go.Ground.phase }, { on := 2, ground := Go.Ground.phase }, { on := 3, ground := Go.Ground.phase }, { on := 4, ground := Go.Ground.phase }, { on := 5, ground := Go.Ground.phase }, { on := 6, ground := Go.Ground.textOnly Go.Departure.lateStores }, { on := 7, ground := Go.Ground.textOnly Go.Departure.lateStoresUnsure }, { on := 8, ground := Go.Ground.textOnly Go.Departure.lateStoresUnsure }, { on := 9, ground := Go.Ground.phase }, { on := 10, ground := Go.Ground.textOnly Go.Departure.lateStores }, { on := 11, ground := Go.Ground.phase }, { on := 12, ground := Go.Ground.phase }, { on := 13, ground := Go.Ground.textOnly Go.Departure.lateStores }, { on := 14, ground := Go.Ground.phase }], guard := none }
def q33r3_17 : Oper := { dst := some 32, op := Go.Op.mapEntry 71 (Go.Operand.tmp 25) (Go.Operand.tmp 27), type := 0, pos := "later.go:214", after := #[{ on := 9, ground := Go.Ground.data }, { on := 11, ground := Go.Ground.data }, { on := 16, ground := Go.Ground.chain }, { on := 0, ground := Go.Ground.phase }, { on := 1, ground := Go.Ground.phase }, { on := 2, ground := Go.Ground.phase }, { on := 3, ground := Go.Ground.phase }, { on := 4, ground := Go.Ground.phase }, { on := 5, ground := Go.Ground.phase }, { on := 6, ground := Go.Ground.textOnly Go.Departure.tupleMapEntryFirst }, { on := 7, ground := Go.Ground.textOnly Go.Departure.lateStoresUnsure }, { on := 8, ground := Go.Ground.textOnly Go.Departure.lateStoresUnsure }, { on := 9, ground := Go.Ground.phase }, { on := 10, ground := Go.Ground.textOnly Go.Departure.tupleMapEntryFirst }, { on := 11, ground := Go.Ground.phase }, { on := 12, ground := Go.Ground.phase }, { on := 13, ground := Go.Ground.textOnly Go.Departure.tupleMapEntryFirst }, { on := 14, ground := Go.Ground.phase }, { on := 15, ground := Go.Ground.phase }, { on := 16, ground := Go.Ground.phase }], guard := none }
def q33r3_18 : Oper := { dst := some 33, op := Go.Op.extract (Go.Operand.tmp 32) 1, type := 3, pos := "later.go:214", after := #[{ on := 17, ground := Go.Ground.data }], guard := none }
def q33r3_19 : Oper := { dst := none, op := Go.Op.entryStore 71 (Go.Operand.tmp 25) (Go.Operand.tmp 33) (Go.Operand.tmp 29), type := 0, pos := "later.go:214", after := #[{ on := 9, ground := Go.Ground.data }, { on := 18, ground := Go.Ground.data }, { on := 13, ground := Go.Ground.data }, { on := 17, ground := Go.Ground.chain }, { on := 0, ground := Go.Ground.phase }, { on := 1, ground := Go.Ground.phase }, { on := 2, ground := Go.Ground.phase }, { on := 3, ground := Go.Ground.phase }, { on := 4, ground := Go.Ground.phase }, { on := 5, ground := Go.Ground.phase }, { on := 6, ground := Go.Ground.phase }, { on := 7, ground := Go.Ground.phase }, { on := 8, ground := Go.Ground.phase }, { on := 9, ground := Go.Ground.phase }, { on := 10, ground := Go.Ground.phase }, { on := 11, ground := Go.Ground.phase }, { on := 12, ground := Go.Ground.phase }, { on := 13, ground := Go.Ground.phase }, { on := 14, ground := Go.Ground.phase }, { on := 15, ground := Go.Ground.phase }, { on := 16, ground := Go.Ground.phase }, { on := 17, ground := Go.Ground.phase }], guard := none }
def o33r3 : Array Oper := #[q33r3_0, q33r3_1, q33r3_2, q33r3_3, q33r3_4, q33r3_5, q33r3_6, q33r3_7, q33r3_8, q33r3_9, q33r3_10, q33r3_11, q33r3_12, q33r3_13, q33r3_14, q33r3_15, q33r3_16, q33r3_17, q33r3_18, q33r3_19]
def p33r3_20 : List (Nat × Oper) := []
def p33r3_19 : List (Nat × Oper) := (1, q33r3_19) :: p33r3_20
def p33r3_18 : List (Nat × Oper) := (0, q33r3_18) :: p33r3_19
def p33r3_17 : List (Nat × Oper) := (1, q33r3_17) :: p33r3_18
def p33r3_16 : List (Nat × Oper) := (1, q33r3_16) :: p33r3_17
def p33r3_15 : List (Nat × Oper) := (0, q33r3_15) :: p33r3_16
def p33r3_14 : List (Nat × Oper) := (1, q33r3_14) :: p33r3_15
def p33r3_13 : List (Nat × Oper) := (1, q33r3_11) :: p33r3_14
def p33r3_12 : List (Nat × Oper) := (0, q33r3_13) :: p33r3_13
def p33r3_11 : List (Nat × Oper) := (0, q33r3_12) :: p33r3_12
def p33r3_10 : List (Nat × Oper) := (0, q33r3_10) :: p33r3_11
def p33r3_9 : List (Nat × Oper) := (0, q33r3_9) :: p33r3_10
def p33r3_8 : List (Nat × Oper) := (0, q33r3_8) :: p33r3_9
def p33r3_7 : List (Nat × Oper) := (0, q33r3_7) :: p33r3_8
def p33r3_6 : List (Nat × Oper) := (0, q33r3_6) :: p33r3_7
def p33r3_5 : List (Nat × Oper) := (0, q33r3_5) :: p33r3_6
def p33r3_4 : List (Nat × Oper) := (0, q33r3_4) :: p33r3_5
def p33r3_3 : List (Nat × Oper) := (0, q33r3_3) :: p33r3_4
def p33r3_2 : List (Nat × Oper) := (0, q33r3_2) :: p33r3_3
def p33r3_1 : List (Nat × Oper) := (0, q33r3_1) :: p33r3_2
def p33r3_0 : List (Nat × Oper) := (0, q33r3_0) :: p33r3_1
def c33r3 : List (Nat × Nat) := [(0, 0), (0, 1), (0, 2), (0, 3), (0, 4), (0, 5), (0, 6), (0, 7), (0, 8), (0, 9), (0, 10), (0, 12), (0, 13), (1, 11), (1, 14), (0, 15), (1, 16), (1, 17), (0, 18), (1, 19)]
theorem b33r3 : (Region.noSelect o33r3 && (c33r3.length == o33r3.size) && planB o33r3 [] c33r3 (Array.replicate o33r3.size false)) = true := by kernel_rfl
theorem d33r3 : (c33r3.map fun p => (p.1, o33r3[p.2]?)) = (p33r3_0.map fun p => (p.1, some p.2)) := by kernel_rfl

/-- What add leaves. -/
structure Ad (c : Nat → Rn) (w w' : World) (Q B mb me : Nat) (v : Value) (L : List Nat) (x : Rn) : Prop where
  ex : ∃ c' v' L' b, (∀ i, i < w.heap.size → c' i = c i) ∧ Lc c' w' Q B mb me v' L' ∧ L'.Perm (b :: L) ∧ c' b = x ∧ w.heap.size ≤ b ∧ (v'.ownBlock = v.ownBlock ∨ ∃ g, v'.ownBlock = some g ∧ w.heap.size ≤ g)
  kp : Kp (Fp Q B mb me v L) w w'
set_option maxRecDepth 100000 in
set_option maxHeartbeats 8000000 in
theorem add_any (c : Nat → Rn) (w : World) (Q B mb me : Nat) (v : Value) (L : List Nat) (x : Rn) (h : Lc c w Q B mb me v L) (hx : Mayr x) (hap : ∀ b ∈ L, Aprt x (c b)) (hlen : L.length < 4096) :
    Calls Try.prog 33 #[ptr Q, .agg x.cs] w fun e w' => e = .returned (.tuple #[]) ∧ Ad c w w' Q B mb me v L x := by
  obtain ⟨P0, hP0⟩ : ∃ P0, P0 = w.heap.size := ⟨_, rfl⟩
  obtain ⟨c', hc'⟩ : ∃ c' : Nat → Rn, c' = fun k => if k = P0 + 1 then x else c k := ⟨_, rfl⟩
  have hcb : c' (P0 + 1) = x := by rw [hc']; simp
  have hco : ∀ i, i < w.heap.size → c' i = c i := fun i hi => by rw [hc']; simp; omega
  have hcl : ∀ b ∈ L, c' b = c b := fun b hb => hco b (h.lt (.inr (.inr (.inr (.inr (.inr hb))))))
  have LN := hid (ln_congr h.ln hcl)
  have HPD := hid (hpd_congr h.hp hcl)
  obtain ⟨eb, kb, mp1, ky1⟩ := h.bm
  obtain ⟨ee, ke, mp2, ky2'⟩ := h.em
  have KY1 := hid (ky1.congr hcl)
  have KY2 := hid (ky2'.congr hcl)
  have MP1 := hid mp1
  have MP2 := hid mp2
  have hap' : ∀ b ∈ L, Aprt x (c' b) := fun b hb => by rw [hcl b hb]; exact hap b hb
  have hmay : ∀ b ∈ L, Mayr (c' b) := LN.out.may
  have HN1 : Hid (mget eb x.a = none) := by
    cases hq : mget eb x.a with
    | none => exact rfl
    | some u =>
      obtain ⟨b, hb, e1, _⟩ := (KY1.out x.a u).1 hq
      have h1 := hap' b hb
      have h2 := (hmay b hb).lt
      have h3 := hx.lt
      unfold Aprt at h1
      omega
  have HN2 : Hid (mget ee x.e = none) := by
    cases hq : mget ee x.e with
    | none => exact rfl
    | some u =>
      obtain ⟨b, hb, e1, _⟩ := (KY2.out x.e u).1 hq
      have h1 := hap' b hb
      have h2 := (hmay b hb).lt
      have h3 := hx.lt
      unfold Aprt at h1
      omega
  have hSZ := sz_pos (L := L.map c) h.ap.1
  have hSZ2 := ap_sz h.ap
  have APN : Hid (∀ L' : List Nat, L'.Perm ((P0 + 1) :: L) → Ap (L'.map c') ∧ sz (L'.map c') = sz (L.map c) + x.n) := fun L' hp => by
    have hm : ((P0 + 1) :: L).map c' = x :: L.map c := by rw [List.map_cons, hcb, map_congr hcl]
    have hap2 : Ap (((P0 + 1) :: L).map c') := by
      rw [hm]
      refine ⟨fun y hy => ?_, List.pairwise_cons.2 ⟨fun y hy => ?_, h.ap.2⟩⟩
      · rcases List.mem_cons.1 hy with rfl | hy
        · exact hx
        · exact h.ap.1 y hy
      · obtain ⟨b, hb, rfl⟩ := List.mem_map.1 hy
        exact hap b hb
    refine ⟨hap2.perm (hp.symm.map c'), ?_⟩
    rw [sz_perm (hp.map c'), hm, sz_cons]
    omega
  have HST := hid h.st
  have HNM := hid h.nm
  have HLT : Hid (∀ k, Fp Q B mb me v L k → k < w.heap.size) := fun k hk => h.lt hk
  have HCO := hid hco
  have HMX := hid hx
  have HQt := hid (sep h.st h.ln mp1 mp2)
  clear h hap hx hco hcl ky1 ky2' mp1 mp2 hap' hmay hc'
  obtain ⟨xa, xn⟩ := x
  have A0 := St.new 38 w (⟨xa, xn⟩ : Rn).cs
  have A1 := St.new 77 (w.alloc (.cells #[.int .i64 xa, .int .i64 xn] 38)) #[.int .i64 xa, .int .i64 xn, .int .i64 0]
  have kA : Kp (fun _ => False) w ((w.alloc (.cells #[.int .i64 xa, .int .i64 xn] 38)).alloc (.cells #[.int .i64 xa, .int .i64 xn, .int .i64 0] 77)) := ((Kp.refl _ _).alloc _).alloc _
  rw [World.size_alloc] at A1
  have A0' := A0.kp ((Kp.refl (fun _ => False) _).alloc (.cells #[.int .i64 xa, .int .i64 xn, .int .i64 0] 77)) (fun h => h)
  unfold Rn.cs at A0 A0' ⊢
  dsimp only at A0 A0' A1 kA ⊢
  obtain ⟨W1, hW1⟩ : ∃ W1, W1 = (w.alloc (.cells #[.int .i64 xa, .int .i64 xn] 38)).alloc (.cells #[.int .i64 xa, .int .i64 xn, .int .i64 0] 77) := ⟨_, rfl⟩
  have c00 : (w.alloc (.cells #[.int .i64 xa, .int .i64 xn] 38)).cell? ⟨w.heap.size, 0, none⟩ = some (.int .i64 xa) := A0.cell 0
  have c01 : (w.alloc (.cells #[.int .i64 xa, .int .i64 xn] 38)).cell? ⟨w.heap.size, 1, none⟩ = some (.int .i64 xn) := A0.cell 1
  have HW1 : Hid (W1.heap.size = w.heap.size + 1 + 1) := by show _ = _; rw [hW1, World.size_alloc, World.size_alloc]
  rw [← hW1] at A0' A1 kA
  have SQ1 := hid (HST.out.kp kA (fun h => h))
  have cq0 : W1.cell? ⟨Q, 0, none⟩ = some (.pointer (some ⟨B, 0, none⟩)) := SQ1.out.cell 0
  have HPU : Hid (Calls Try.prog 54 #[.iface 70 (ptr B), .iface 74 (ptr (P0 + 1))] W1 fun e w' => e = .returned (.tuple #[]) ∧ ∃ v' L', L'.Perm ((P0 + 1) :: L) ∧ Ln c' w' 0 B v' L' ∧ Hpd c' L' ∧ (v'.ownBlock = v.ownBlock ∨ ∃ g, v'.ownBlock = some g ∧ W1.heap.size ≤ g) ∧ Kp (fun k => k = B ∨ LnF v ((P0 + 1) :: L) k) W1 w') :=
    hpush_any c' W1 0 B v L (P0 + 1) 0 (LN.out.kp0 kA) HPD.out (by unfold Wt; rw [hcb, hP0]; exact A1) (by rw [hcb]; exact HMX.out) (fun hm => by have := HLT.out _ (.inr (.inr (.inr (.inr (.inr hm))))); omega) (Nat.zero_le _) (by omega)
  rw [← hP0] at A0' c00 c01
  have SX1 := hid A0'
  have KA := hid kA
  unfold ptr at HPU ⊢
  go_enter Try.func33, Try.ntmps33
  generalize hC4 : Code.region 4 _ _ = C4
  generalize hC3 : Code.region 3 _ _ = C3
  generalize hC2 : Code.region 2 _ _ = C2
  go_wp2_with fail
  rw [← hW1, ← hP0]
  have HP0 := hid hP0
  clear hW1 c00 c01 A1 kA A0 hP0
  subst hC2
  go_wp2_with (first | (go_at_call 54; refine HPU.out.mono ?_; rintro e W2 ⟨rfl, v', L', pm, l2, hp2, ow, k2⟩; have PM := hid pm; have L2 := hid l2; have HP2 := hid hp2; have OW := hid ow; have K2 := hid k2; clear pm l2 hp2 ow k2))
  have hnf : ∀ i, (i = Q ∨ i = P0 ∨ i = mb ∨ i = me) → ¬ (i = B ∨ LnF v ((P0 + 1) :: L) i) := by
    obtain ⟨q1, q2, q3, q4, q5, q6, q7, q8, q9, q10⟩ := HQt.out
    have hp0 := HP0.out
    have g0 : ∀ i, i = Q ∨ i = mb ∨ i = me → i < w.heap.size := fun i hi => HLT.out i (by rcases hi with e | e | e <;> simp [Fp, e])
    rintro i (rfl | rfl | rfl | rfl) hb
    · rcases hb with e | e | e
      · exact q1 e
      · exact q3 e
      · rcases List.mem_cons.1 e with e | e
        · have := g0 i (.inl rfl); omega
        · exact q2 i e rfl
    · rcases hb with e | e | e
      · have := HLT.out B (.inr (.inl rfl)); omega
      · have := HLT.out i (.inr (.inr (.inr (.inr (.inl e))))); omega
      · rcases List.mem_cons.1 e with e | e
        · omega
        · have := HLT.out i (.inr (.inr (.inr (.inr (.inr e))))); omega
    · rcases hb with e | e | e
      · exact q6 e
      · exact q9 e
      · rcases List.mem_cons.1 e with e | e
        · have := g0 i (.inr (.inl rfl)); omega
        · exact (q8 i e).1 rfl
    · rcases hb with e | e | e
      · exact q7 e
      · exact q10 e
      · rcases List.mem_cons.1 e with e | e
        · have := g0 i (.inr (.inr rfl)); omega
        · exact (q8 i e).2 rfl
  have MP12 := hid ((MP1.out.kp KA.out (fun h => h)).kp K2.out (hnf _ (.inr (.inr (.inl rfl)))))
  have MP22 := hid ((MP2.out.kp KA.out (fun h => h)).kp K2.out (hnf _ (.inr (.inr (.inr rfl)))))
  have SQ2 := hid (SQ1.out.kp K2.out (hnf _ (.inl rfl)))
  have SX2 := hid (SX1.out.kp K2.out (hnf _ (.inr (.inl rfl))))
  have HQm : Hid (Q ≠ mb ∧ Q ≠ me ∧ P0 ≠ mb ∧ P0 ≠ me) := by
    obtain ⟨q1, q2, q3, q4, q5, q6, q7, q8, q9, q10⟩ := HQt.out
    have := HP0.out
    have h1 := HLT.out mb (.inr (.inr (.inl rfl)))
    have h2 := HLT.out me (.inr (.inr (.inr (.inl rfl))))
    exact ⟨q4, q5, by omega, by omega⟩
  have HQC : Hid (∀ U, Kp (fun k => k = mb ∨ k = me) W2 U → U.cell? ⟨Q, 1, none⟩ = some (.map (some mb)) ∧ U.cell? ⟨Q, 2, none⟩ = some (.map (some me)) ∧ U.cell? ⟨P0, 0, none⟩ = some (.int .i64 xa) ∧ U.cell? ⟨P0, 1, none⟩ = some (.int .i64 xn)) := fun U hU => by
    obtain ⟨q1, q2, q3, q4⟩ := HQm.out
    have h1 := SQ2.out.kp hU (by omega)
    have h2 := SX2.out.kp hU (by omega)
    exact ⟨h1.cell 1, h1.cell 2, h2.cell 0, h2.cell 1⟩
  have H0 : Hid (Kp (fun k => k = mb ∨ k = me) W2 W2.drew) := (Kp.refl _ _).drew
  have HEN : Hid (∀ U, Calls Try.prog 48 #[.agg #[.int .i64 xa, .int .i64 xn]] U fun e w' => e = .returned (.int .i64 (xa + xn)) ∧ Below U.heap.size U w') := fun U => end_any ⟨xa, xn⟩ U HMX.out
  clear hnf
  subst hC3
  change (Code.region 3 o33r3 true).wp _ _ _ _
  refine wp_region_plan (fun w' => Kp (fun k => k = mb ∨ k = me) W2 w') [] c33r3 p33r3_0 hmix b33r3 d33r3 (fun _ _ d _ _ h => by cases d <;> exact h) ?_
  refine plan_take (o := q33r3_0) (r := p33r3_1) ?va0 H0.out (by rfl) ?hya0 ?resta0
  case hya0 => (intro w hSw; (try dsimp only at hSw); simp only [q33r3_0]; go_simp; try with_reducible rfl)
  try simp only [q33r3_0, Act.put, List.setIfInBounds_toArray, List.set_cons_zero, List.set_cons_succ]
  refine plan_take (o := q33r3_1) (r := p33r3_2) ?va1 H0.out (by rfl) ?hya1 ?resta1
  case hya1 => (intro w hSw; (try dsimp only at hSw); simp only [q33r3_1]; go_simp; try with_reducible rfl)
  try simp only [q33r3_1, Act.put, List.setIfInBounds_toArray, List.set_cons_zero, List.set_cons_succ]
  refine plan_take (o := q33r3_2) (r := p33r3_3) ?va2 H0.out (by rfl) ?hya2 ?resta2
  case hya2 => (intro w hSw; (try dsimp only at hSw); simp only [q33r3_2]; go_simp; try with_reducible rfl)
  try simp only [q33r3_2, Act.put, List.setIfInBounds_toArray, List.set_cons_zero, List.set_cons_succ]
  refine plan_take (o := q33r3_3) (r := p33r3_4) ?va3 H0.out (by rfl) ?hya3 ?resta3
  case hya3 => (intro w hSw; (try dsimp only at hSw); have y := (HQC.out _ hSw).1; simp only [q33r3_3]; go_simp; try with_reducible rfl)
  try simp only [q33r3_3, Act.put, List.setIfInBounds_toArray, List.set_cons_zero, List.set_cons_succ]
  refine plan_take (o := q33r3_4) (r := p33r3_5) ?va4 H0.out (by rfl) ?hya4 ?resta4
  case hya4 => (intro w hSw; (try dsimp only at hSw); simp only [q33r3_4]; go_simp; try with_reducible rfl)
  try simp only [q33r3_4, Act.put, List.setIfInBounds_toArray, List.set_cons_zero, List.set_cons_succ]
  refine plan_take (o := q33r3_5) (r := p33r3_6) ?va5 H0.out (by rfl) ?hya5 ?resta5
  case hya5 => (intro w hSw; (try dsimp only at hSw); have y := (HQC.out _ hSw).2.2.1; simp only [q33r3_5]; go_simp; try with_reducible rfl)
  try simp only [q33r3_5, Act.put, List.setIfInBounds_toArray, List.set_cons_zero, List.set_cons_succ]
  refine plan_take (o := q33r3_6) (r := p33r3_7) ?va6 H0.out (by rfl) ?hya6 ?resta6
  case hya6 => (intro w hSw; (try dsimp only at hSw); simp only [q33r3_6]; go_simp; try with_reducible rfl)
  try simp only [q33r3_6, Act.put, List.setIfInBounds_toArray, List.set_cons_zero, List.set_cons_succ]
  refine plan_take (o := q33r3_7) (r := p33r3_8) ?va7 H0.out (by rfl) ?hya7 ?resta7
  case hya7 => (intro w hSw; (try dsimp only at hSw); simp only [q33r3_7]; go_simp; try with_reducible rfl)
  try simp only [q33r3_7, Act.put, List.setIfInBounds_toArray, List.set_cons_zero, List.set_cons_succ]
  refine plan_take (o := q33r3_8) (r := p33r3_9) ?va8 H0.out (by rfl) ?hya8 ?resta8
  case hya8 => (intro w hSw; (try dsimp only at hSw); simp only [q33r3_8]; go_simp; try with_reducible rfl)
  try simp only [q33r3_8, Act.put, List.setIfInBounds_toArray, List.set_cons_zero, List.set_cons_succ]
  refine plan_take (o := q33r3_9) (r := p33r3_10) ?va9 H0.out (by rfl) ?hya9 ?resta9
  case hya9 => (intro w hSw; (try dsimp only at hSw); have y := (HQC.out _ hSw).2.1; simp only [q33r3_9]; go_simp; try with_reducible rfl)
  try simp only [q33r3_9, Act.put, List.setIfInBounds_toArray, List.set_cons_zero, List.set_cons_succ]
  refine plan_take (o := q33r3_10) (r := p33r3_11) ?va10 H0.out (by rfl) ?hya10 ?resta10
  case hya10 => (intro w hSw; (try dsimp only at hSw); obtain ⟨_, _, y, y2⟩ := HQC.out _ hSw; simp only [q33r3_10]; go_simp; try with_reducible rfl)
  try simp only [q33r3_10, Act.put, List.setIfInBounds_toArray, List.set_cons_zero, List.set_cons_succ]
  refine plan_take (o := q33r3_12) (r := p33r3_12) ?va12 H0.out (by rfl) ?hya12 ?resta12
  case hya12 => (intro w hSw; (try dsimp only at hSw); simp only [q33r3_12]; go_simp; try with_reducible rfl)
  try simp only [q33r3_12, Act.put, List.setIfInBounds_toArray, List.set_cons_zero, List.set_cons_succ]
  refine plan_take (o := q33r3_13) (r := p33r3_13) ?va13 H0.out (by rfl) ?hya13 ?resta13
  case hya13 => (intro w hSw; (try dsimp only at hSw); simp only [q33r3_13]; go_simp; try with_reducible rfl)
  try simp only [q33r3_13, Act.put, List.setIfInBounds_toArray, List.set_cons_zero, List.set_cons_succ]
  refine plan_act (o := q33r3_11) (r := p33r3_14) (fun K hK => ?_)
  simp only [q33r3_11]
  refine ite_pos2 (by rfl) ?_
  go_simp
  refine (HEN.out _).mono ?_
  rintro e w3 ⟨rfl, b3⟩
  have K3 : Hid (Kp (fun k => k = mb ∨ k = me) W2 w3) := H0.out.trans (Kp.of_below (F := fun _ => False) b3) (fun _ _ h => h.elim)
  have K3f : Hid (Kp (fun _ => False) W2 w3) := ((Kp.refl _ _).drew).trans (Kp.of_below (F := fun _ => False) b3) (fun _ _ h => h)
  clear b3
  go_wp2_with fail
  refine hK.out _ _ (fun _ => K3.out) ?_
  clear hK K
  try simp only [q33r3_11, Act.put, List.setIfInBounds_toArray, List.set_cons_zero, List.set_cons_succ]
  refine plan_act (o := q33r3_14) (r := p33r3_15) (fun K hK => ?_)
  simp only [q33r3_14]
  refine ite_pos2 (by rfl) ?_
  obtain ⟨w4, m4, k4, r4⟩ := entry_two (x := xa) (MP12.out.kp K3f.out (fun h => h)) HN1.out (.pointer (some ⟨P0 + 1, 0, none⟩))
  have rr := r4
  go_simp
  have KK14 : Hid (Kp (fun k => k = mb ∨ k = me) W2 w4) := K3.out.trans k4 (fun _ _ h => .inl h)
  refine hK.out _ _ (fun _ => KK14.out) ?_
  clear hK K rr r4
  try simp only [q33r3_14, Act.put, List.setIfInBounds_toArray, List.set_cons_zero, List.set_cons_succ]
  refine plan_take (o := q33r3_15) (r := p33r3_16) ?va15 KK14.out (by rfl) ?hya15 ?resta15
  case hya15 => (intro w hSw; (try dsimp only at hSw); simp only [q33r3_15]; go_simp; try with_reducible rfl)
  try simp only [q33r3_15, Act.put, List.setIfInBounds_toArray, List.set_cons_zero, List.set_cons_succ]
  refine plan_act (o := q33r3_16) (r := p33r3_17) (fun K hK => ?_)
  simp only [q33r3_16]
  refine ite_pos2 (by rfl) ?_
  obtain ⟨w5, m5, k5, r5⟩ := m4
  have rr := r5
  go_simp
  have KK16 : Hid (Kp (fun k => k = mb ∨ k = me) W2 w5) := K3.out.trans k5 (fun _ _ h => .inl h)
  refine hK.out _ _ (fun _ => KK16.out) ?_
  clear hK K rr r5
  try simp only [q33r3_16, Act.put, List.setIfInBounds_toArray, List.set_cons_zero, List.set_cons_succ]
  refine plan_act (o := q33r3_17) (r := p33r3_18) (fun K hK => ?_)
  simp only [q33r3_17]
  refine ite_pos2 (by rfl) ?_
  obtain ⟨w6, m6, k6, r6⟩ := entry_two (x := xa + xn) ((MP22.out.kp K3f.out (fun h => h)).kp k5 (Ne.symm HNM.out)) HN2.out (.pointer (some ⟨P0 + 1, 0, none⟩))
  have rr := r6
  go_simp
  have KK17 : Hid (Kp (fun k => k = mb ∨ k = me) W2 w6) := KK16.out.trans k6 (fun _ _ h => .inr h)
  refine hK.out _ _ (fun _ => KK17.out) ?_
  clear hK K rr r6
  try simp only [q33r3_17, Act.put, List.setIfInBounds_toArray, List.set_cons_zero, List.set_cons_succ]
  refine plan_take (o := q33r3_18) (r := p33r3_19) ?va18 KK17.out (by rfl) ?hya18 ?resta18
  case hya18 => (intro w hSw; (try dsimp only at hSw); simp only [q33r3_18]; go_simp; try with_reducible rfl)
  try simp only [q33r3_18, Act.put, List.setIfInBounds_toArray, List.set_cons_zero, List.set_cons_succ]
  refine plan_act (o := q33r3_19) (r := p33r3_20) (fun K hK => ?_)
  simp only [q33r3_19]
  refine ite_pos2 (by rfl) ?_
  obtain ⟨w7, m7, k7, r7⟩ := m6
  have rr := r7
  go_simp
  have KK19 : Hid (Kp (fun k => k = mb ∨ k = me) W2 w7) := KK16.out.trans k7 (fun _ _ h => .inr h)
  refine hK.out _ _ (fun _ => KK19.out) ?_
  clear hK K rr r7
  try simp only [q33r3_19, Act.put, List.setIfInBounds_toArray, List.set_cons_zero, List.set_cons_succ]
  refine plan_done ?_
  have SQ7 := hid (SQ2.out.kp KK19.out (by have := HQm.out; omega))
  have SX7 := hid (SX2.out.kp KK19.out (by have := HQm.out; omega))
  have M5 := hid (m5.kp k7 HNM.out)
  have M7 := hid m7
  have cq : w7.cell? ⟨Q, 3, none⟩ = some (.int .i64 (sz (L.map c))) := SQ7.out.cell 3
  have cx : w7.cell? ⟨P0, 1, none⟩ = some (.int .i64 xn) := SX7.out.cell 1
  clear m5 m7 k4 k5 k6 k7
  obtain ⟨ap2, szn⟩ := APN.out L' PM.out
  have hsb := ap_sz ap2
  rw [szn] at hsb
  try dsimp only at hsb szn
  have hw : IntKind.i64.wrap (sz (L.map c) + xn) = sz (L.map c) + xn := by rw [IntKind.wrap_i64]; omega
  have HS2 := hid szn
  have AP2 := hid ap2
  clear szn ap2 hsb
  go_wp2_with fail
  subst hC4
  refine wp_region_tail hmix (by kernel_rfl) ?_
  dsimp only [List.dropLast, List.getLast]
  repeat (gi_big_quiet_step (fail))
  refine wpQuietIn_nil ?_
  intro _ hw'
  obtain ⟨nq, hw2⟩ := hw'
  subst hw2
  have kq := drewN_kp (fun _ => False) w7 nq
  generalize w7.drewN nq = X8 at kq ⊢
  have S9 := hid (SQ7.out.kp kq (fun x => x))
  have y8 : X8.cell? ⟨Q, 3, none⟩ = some (.int .i64 (sz (L.map c))) := S9.out.cell 3
  have z8 : X8.frozen? ⟨Q, 3, none⟩ = false := S9.out.frozen 3
  have lq := S9.out.lt
  have KQ := hid kq
  clear kq cq cx
  gi_wp2_with fail
  go_end0
  have kz := kp_setCell X8 Q 3 (.int .i64 (sz (L.map c) + xn)) (fun k => k = Q) rfl
  have k27 : Kp (fun k => k = mb ∨ k = me ∨ k = Q) W2 (X8.setCell ⟨Q, 3, none⟩ (.int .i64 (sz (L.map c) + xn))) := (((KK19.out.mono (fun _ _ h => h.imp id .inl)).trans KQ.out (fun _ _ h => h.elim))).trans kz (fun _ _ h => .inr (.inr h))
  obtain ⟨q1, q2, q3, q4, q5, q6, q7, q8, q9, q10⟩ := sep SQ2.out L2.out MP12.out MP22.out
  have hp0 := HP0.out
  have hw1 : w.heap.size + 2 ≤ W1.heap.size := Nat.le_trans (by omega) (Nat.le_of_eq HW1.out.symm)
  refine ⟨rfl, ⟨c', v', L', P0 + 1, HCO.out, ⟨?_, ?_, HP2.out, ⟨_, _, (M5.out.kp KQ.out (fun h => h)).kp kz (Ne.symm HQm.out.1), ?_⟩, ⟨_, _, (M7.out.kp KQ.out (fun h => h)).kp kz (Ne.symm HQm.out.2.1), ?_⟩, HNM.out, AP2.out, ?_⟩, PM.out, hcb, by omega, ?_⟩, ?_⟩
  · rw [HS2.out]
    exact St.set S9.out 3 _
  · refine L2.out.kp k27 (by omega) (fun g e h => ?_) (fun b hb h => ?_)
    · rcases h with rfl | rfl | rfl
      · exact q9 e
      · exact q10 e
      · exact q3 e
    · rcases h with rfl | rfl | rfl
      · exact (q8 _ hb).1 rfl
      · exact (q8 _ hb).2 rfl
      · exact q2 _ hb rfl
  · have := KY1.out.put (k := kb) PM.out (by rw [hcb]; exact HN1.out)
    rw [hcb] at this
    exact this
  · have := KY2.out.put (k := ke) PM.out (by rw [hcb]; exact HN2.out)
    rw [hcb] at this
    exact this
  · have := PM.out.length_eq
    simp at this
    omega
  · rcases OW.out with e | ⟨g, e, hg⟩
    · exact .inl e
    · exact .inr ⟨g, e, by omega⟩
  · refine ((KA.out.mono (G := Fp Q B mb me v L) (fun _ _ h => h.elim)).trans K2.out (fun i hi h => ?_)).trans k27 (fun i hi h => ?_)
    · rcases h with h | h | h
      · exact .inr (.inl h)
      · exact .inr (.inr (.inr (.inr (.inl h))))
      · rcases List.mem_cons.1 h with h | h
        · omega
        · exact .inr (.inr (.inr (.inr (.inr h))))
    · rcases h with h | h | h
      · exact .inr (.inr (.inl h))
      · exact .inr (.inr (.inr (.inl h)))
      · exact .inl h
end Go.Proofs.Ytgfondgejimkkaa
