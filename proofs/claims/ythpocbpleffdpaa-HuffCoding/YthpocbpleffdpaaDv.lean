/- HuffCoding: the law's takes. -/
import Derived.Test.YthpocbpleffdpaaDt
import Derived.Test.YthpocbpleffdpaaXeX
import Derived.Test.YthpocbpleffdpaaCg
import Derived.Deep.RegionHeld3
import Derived.Test.YthpocbpleffdpaaNe
namespace Go.Proofs.Ythpocbpleffdpaa
open Go.RowKit
set_option linter.unusedVariables false
set_option linter.unusedSimpArgs false
theorem dig_at (V T i : Nat) (h : i < T) : (Bz.dig 2 V T).getD i 0 = ((V / 2 ^ i % 2 : Nat) : Int) := Bz.dig_get 2 V T i h
/-- The bits from a place on, as a slice of the row of all. -/
theorem src_cut {w : World} {go V T p t : Nat} (h : Bz.Src w (some ⟨go, 0, none⟩) (Bz.dig 2 V T)) (hp : p + t ≤ T) (A : Nat) (hA : 0 < t → A = p) : Src .u8 w (some ⟨go, A, none⟩) ((Bz.dig 2 V T).drop p |>.take t) ∧ ((Bz.dig 2 V T).drop p |>.take t).length = t ∧ ∀ k, k < t → ((Bz.dig 2 V T).drop p |>.take t).getD k 0 = (bt V p k : Int) := by
  have hl : ((Bz.dig 2 V T).drop p |>.take t).length = t := by rw [List.length_take, List.length_drop, Bz.dig_length]; omega
  have hg : ∀ k, k < t → ((Bz.dig 2 V T).drop p |>.take t).getD k 0 = (bt V p k : Int) := fun k hk => by
    rw [List.getD_eq_getElem?_getD, List.getElem?_take_of_lt hk, List.getElem?_drop, ← List.getD_eq_getElem?_getD, dig_at V T (p + k) (by omega)]
    rfl
  refine ⟨fun h0 => ?_, hl, hg⟩
  rw [hl] at h0
  obtain rfl := hA h0
  obtain ⟨b, off, e, hc⟩ := h (by rw [Bz.dig_length]; omega)
  cases e
  refine ⟨_, A, rfl, fun i hi => ?_⟩
  rw [hl] at hi
  rw [hg i hi]
  have := hc (A + i) (by rw [Bz.dig_length]; omega)
  rw [Nat.zero_add, dig_at V T (A + i) (by omega)] at this
  exact this
def q38r11_0 : Oper := { dst := some 45, op := Go.Op.fieldAddr 52 (Go.Operand.tmp 3) 0, type := 0, pos := "law.go:250", after := #[], guard := none }
def q38r11_1 : Oper := { dst := some 46, op := Go.Op.load 22 (Go.Operand.tmp 45), type := 22, pos := "law.go:250", after := #[{ on := 0, ground := Go.Ground.data }], guard := none }
def q38r11_2 : Oper := { dst := some 47, op := Go.Op.move (Go.Operand.tmp 6), type := 50, pos := "law.go:250", after := #[], guard := none }
def q38r11_3 : Oper := { dst := some 48, op := Go.Op.move (Go.Operand.tmp 7), type := 3, pos := "law.go:250", after := #[], guard := none }
def q38r11_4 : Oper := { dst := some 49, op := Go.Op.move (Go.Operand.tmp 7), type := 3, pos := "law.go:250", after := #[], guard := none }
def q38r11_5 : Oper := { dst := some 50, op := Go.Op.binOp Go.BinOp.add 3 (Go.Operand.tmp 49) (Go.Operand.const (Go.Value.int Go.IntKind.i64 15)) 3, type := 3, pos := "law.go:250", after := #[{ on := 4, ground := Go.Ground.data }], guard := none }
def q38r11_6 : Oper := { dst := some 51, op := Go.Op.move (Go.Operand.tmp 6), type := 50, pos := "law.go:250", after := #[], guard := none }
def q38r11_7 : Oper := { dst := some 52, op := Go.Op.call { callee := Go.Callee.builtin Go.Builtin.len, args := #[Go.Operand.tmp 51], argTypes := #[50] }, type := 3, pos := "law.go:250", after := #[{ on := 6, ground := Go.Ground.data }], guard := none }
def q38r11_8 : Oper := { dst := some 53, op := Go.Op.call { callee := Go.Callee.builtin Go.Builtin.min, args := #[Go.Operand.tmp 50, Go.Operand.tmp 52], argTypes := #[3, 3] }, type := 3, pos := "law.go:250", after := #[{ on := 5, ground := Go.Ground.data }, { on := 7, ground := Go.Ground.data }], guard := none }
def q38r11_9 : Oper := { dst := some 54, op := Go.Op.slice 50 (Go.Operand.tmp 47) (some (Go.Operand.tmp 48)) (some (Go.Operand.tmp 53)) none, type := 50, pos := "law.go:250", after := #[{ on := 2, ground := Go.Ground.data }, { on := 3, ground := Go.Ground.data }, { on := 8, ground := Go.Ground.data }], guard := none }
def q38r11_10 : Oper := { dst := some 55, op := Go.Op.call { callee := Go.Callee.value (Go.Operand.func 66), args := #[Go.Operand.tmp 46, Go.Operand.tmp 54], argTypes := #[22, 50] }, type := 99, pos := "law.go:250", after := #[{ on := 1, ground := Go.Ground.data }, { on := 9, ground := Go.Ground.data }], guard := none }
def q38r11_11 : Oper := { dst := some 44, op := Go.Op.move (Go.Operand.tmp 55), type := 99, pos := "law.go:250", after := #[{ on := 10, ground := Go.Ground.data }], guard := none }
def q38r11_12 : Oper := { dst := some 56, op := Go.Op.extract (Go.Operand.tmp 44) 0, type := 3, pos := "law.go:250", after := #[{ on := 11, ground := Go.Ground.data }], guard := none }
def q38r11_13 : Oper := { dst := some 57, op := Go.Op.extract (Go.Operand.tmp 44) 1, type := 3, pos := "law.go:250", after := #[{ on := 11, ground := Go.Ground.data }, { on := 15, ground := Go.Ground.gcOnly Go.Departure.lateStores }], guard := none }
def q38r11_14 : Oper := { dst := some 58, op := Go.Op.extract (Go.Operand.tmp 44) 2, type := 3, pos := "law.go:250", after := #[{ on := 11, ground := Go.Ground.data }, { on := 16, ground := Go.Ground.gcOnly Go.Departure.lateStores }], guard := none }
def q38r11_15 : Oper := { dst := some 10, op := Go.Op.assign (Go.Operand.tmp 56), type := 3, pos := "law.go:250", after := #[{ on := 12, ground := Go.Ground.data }, { on := 10, ground := Go.Ground.chain }, { on := 0, ground := Go.Ground.phase }, { on := 1, ground := Go.Ground.phase }, { on := 2, ground := Go.Ground.phase }, { on := 3, ground := Go.Ground.phase }, { on := 4, ground := Go.Ground.phase }, { on := 5, ground := Go.Ground.phase }, { on := 6, ground := Go.Ground.phase }, { on := 7, ground := Go.Ground.phase }, { on := 8, ground := Go.Ground.phase }, { on := 9, ground := Go.Ground.phase }, { on := 10, ground := Go.Ground.phase }, { on := 11, ground := Go.Ground.phase }, { on := 12, ground := Go.Ground.phase }, { on := 13, ground := Go.Ground.textOnly Go.Departure.lateStores }, { on := 14, ground := Go.Ground.textOnly Go.Departure.lateStores }], guard := none }
def q38r11_16 : Oper := { dst := some 11, op := Go.Op.assign (Go.Operand.tmp 57), type := 3, pos := "law.go:250", after := #[{ on := 13, ground := Go.Ground.data }, { on := 15, ground := Go.Ground.chain }, { on := 0, ground := Go.Ground.phase }, { on := 1, ground := Go.Ground.phase }, { on := 2, ground := Go.Ground.phase }, { on := 3, ground := Go.Ground.phase }, { on := 4, ground := Go.Ground.phase }, { on := 5, ground := Go.Ground.phase }, { on := 6, ground := Go.Ground.phase }, { on := 7, ground := Go.Ground.phase }, { on := 8, ground := Go.Ground.phase }, { on := 9, ground := Go.Ground.phase }, { on := 10, ground := Go.Ground.phase }, { on := 11, ground := Go.Ground.phase }, { on := 12, ground := Go.Ground.phase }, { on := 13, ground := Go.Ground.phase }, { on := 14, ground := Go.Ground.textOnly Go.Departure.lateStores }, { on := 15, ground := Go.Ground.phase }], guard := none }
def q38r11_17 : Oper := { dst := some 12, op := Go.Op.assign (Go.Operand.tmp 58), type := 3, pos := "law.go:250", after := #[{ on := 14, ground := Go.Ground.data }, { on := 16, ground := Go.Ground.chain }, { on := 0, ground := Go.Ground.phase }, { on := 1, ground := Go.Ground.phase }, { on := 2, ground := Go.Ground.phase }, { on := 3, ground := Go.Ground.phase }, { on := 4, ground := Go.Ground.phase }, { on := 5, ground := Go.Ground.phase }, { on := 6, ground := Go.Ground.phase }, { on := 7, ground := Go.Ground.phase }, { on := 8, ground := Go.Ground.phase }, { on := 9, ground := Go.Ground.phase }, { on := 10, ground := Go.Ground.phase }, { on := 11, ground := Go.Ground.phase }, { on := 12, ground := Go.Ground.phase }, { on := 13, ground := Go.Ground.phase }, { on := 14, ground := Go.Ground.phase }, { on := 15, ground := Go.Ground.phase }, { on := 16, ground := Go.Ground.phase }], guard := none }
def o38r11 : Array Oper := #[q38r11_0, q38r11_1, q38r11_2, q38r11_3, q38r11_4, q38r11_5, q38r11_6, q38r11_7, q38r11_8, q38r11_9, q38r11_10, q38r11_11, q38r11_12, q38r11_13, q38r11_14, q38r11_15, q38r11_16, q38r11_17]
def p38r11_18 : List (Nat × Oper) := []
def p38r11_17 : List (Nat × Oper) := (0, q38r11_17) :: p38r11_18
def p38r11_16 : List (Nat × Oper) := (0, q38r11_16) :: p38r11_17
def p38r11_15 : List (Nat × Oper) := (0, q38r11_15) :: p38r11_16
def p38r11_14 : List (Nat × Oper) := (0, q38r11_14) :: p38r11_15
def p38r11_13 : List (Nat × Oper) := (0, q38r11_13) :: p38r11_14
def p38r11_12 : List (Nat × Oper) := (0, q38r11_12) :: p38r11_13
def p38r11_11 : List (Nat × Oper) := (0, q38r11_11) :: p38r11_12
def p38r11_10 : List (Nat × Oper) := (1, q38r11_10) :: p38r11_11
def p38r11_9 : List (Nat × Oper) := (0, q38r11_9) :: p38r11_10
def p38r11_8 : List (Nat × Oper) := (0, q38r11_8) :: p38r11_9
def p38r11_7 : List (Nat × Oper) := (0, q38r11_7) :: p38r11_8
def p38r11_6 : List (Nat × Oper) := (0, q38r11_6) :: p38r11_7
def p38r11_5 : List (Nat × Oper) := (0, q38r11_5) :: p38r11_6
def p38r11_4 : List (Nat × Oper) := (0, q38r11_4) :: p38r11_5
def p38r11_3 : List (Nat × Oper) := (0, q38r11_3) :: p38r11_4
def p38r11_2 : List (Nat × Oper) := (0, q38r11_2) :: p38r11_3
def p38r11_1 : List (Nat × Oper) := (0, q38r11_1) :: p38r11_2
def p38r11_0 : List (Nat × Oper) := (0, q38r11_0) :: p38r11_1
def c38r11 : List (Nat × Nat) := [(0, 0), (0, 1), (0, 2), (0, 3), (0, 4), (0, 5), (0, 6), (0, 7), (0, 8), (0, 9), (1, 10), (0, 11), (0, 12), (0, 13), (0, 14), (0, 15), (0, 16), (0, 17)]
theorem b38r11 : (Region.noSelect o38r11 && (c38r11.length == o38r11.size) && planB o38r11 [] c38r11 (Array.replicate o38r11.size false)) = true := by kernel_rfl
theorem d38r11 : (c38r11.map fun p => (p.1, o38r11[p.2]?)) = (p38r11_0.map fun p => (p.1, some p.2)) := by kernel_rfl
set_option maxRecDepth 100000 in
set_option maxHeartbeats 8000000 in
theorem takes_in (w : World) (g : Nat) (la ca sa ao so bo : Option Addr) (lc cc sc oc tc bc tn : Nat) (zs S B : List Int) (p : Nat) (leave : Int) (hpT : p ≤ 8 * B.length) (h : Cd w g la ca sa lc cc sc zs S) (hlt : ∀ i, Cdf g la ca sa i → i < w.heap.size) (hs : Src .i64 w ao zs) (hB : Src .u8 w bo B) (hBl : B.length ≤ 400) (hBb : Bz.Byt B) :
    Calls Try.prog 38 #[.pointer (some ⟨g, 0, none⟩), .agg #[.slice ao zs.length oc, .slice so tn tc, .slice bo B.length bc, .int .i64 (p : Int), .int .i64 leave]] w fun e w' => e = .returned (.bool true) ∧ Kp (fun _ => False) w w' := by
  obtain ⟨X, hX⟩ : ∃ X, X = w.alloc (.cells #[.slice ao zs.length oc, .slice so tn tc, .slice bo B.length bc, .int .i64 (p : Int), .int .i64 leave] 52) := ⟨_, rfl⟩
  have ka : Kp (fun _ => False) w X := by rw [hX]; exact (Kp.refl _ _).alloc _
  have hXs : X.heap.size = w.heap.size + 1 := by rw [hX]; exact World.size_alloc _ _
  have HTC : Hid (∀ U, Kp (fun i => X.heap.size ≤ i) X U → U.cell? ⟨w.heap.size, 0, none⟩ = some (.slice ao zs.length oc) ∧ U.cell? ⟨w.heap.size, 2, none⟩ = some (.slice bo B.length bc) ∧ U.cell? ⟨w.heap.size, 3, none⟩ = some (.int .i64 (p : Int))) := fun U k => by
    have h0 : X.heap[w.heap.size]? = some (.cells #[.slice ao zs.length oc, .slice so tn tc, .slice bo B.length bc, .int .i64 (p : Int), .int .i64 leave] 52 (0, 0)) := by rw [hX]; exact heap_alloc_new w _
    have h1 := (k.block w.heap.size (by omega) (by omega)).trans h0
    exact ⟨by rw [cell_of_row U _ 0 _ 52 _ h1]; rfl, by rw [cell_of_row U _ 2 _ 52 _ h1]; rfl, by rw [cell_of_row U _ 3 _ 52 _ h1]; rfl⟩
  have HNR := hid (Bz.newr_any bo bc B X (by omega) hBb (hB.kp ka (fun _ _ _ h => h)))
  have HSX := hid (hs.kp ka (fun _ _ _ h => h))
  have HBX : Hid (Src .u8 X bo B) := hB.kp ka (fun _ _ _ h => h)
  have HCX := hid (h.ok ka)
  have HKA := hid ka
  have HLT : Hid (∀ i, Cdf g la ca sa i → i < X.heap.size) := fun i hi => by have := hlt i hi; omega
  have HLO : Hid (0 < zs.length → ∀ b off, ao = some ⟨b, off, none⟩ → b < X.heap.size) := fun hp b off e => by have := src_low hs hp b off e; omega
  have HBB := hid hBb
  have HNU := hid num_any
  have hzl : zs.length ≤ 320 := h.hl
  have HWI := hid h.hw
  have HXS := hid hXs
  obtain ⟨V, hV⟩ : ∃ V, V = Bz.und 256 B := ⟨_, rfl⟩
  obtain ⟨T, hT⟩ : ∃ T, T = 8 * B.length := ⟨_, rfl⟩
  have HVV := hid hV
  have HTT := hid hT
  have hT4 : T ≤ 3200 := by omega
  rw [← hT] at hpT
  clear h hlt hs hB hBb ka hXs hV
  go_enter Try.func38, Try.ntmps38
  go_wp2_with fail
  rw [← hX]
  clear hX
  obtain ⟨Q, hQ⟩ : ∃ Q, Q = w.heap.size := ⟨_, rfl⟩
  rw [← hQ] at HTC ⊢
  have z2 := (HTC.out X (Kp.refl _ _)).2.1
  clear hQ hT
  go_wp2_with fail
  refine HNR.out.mono ?_
  rintro e w1 ⟨gr, G, rfl, hgr, hG, r1, k1⟩
  have K1 := hid (kpB k1)
  have R1 := hid r1
  have HGR : Hid (X.heap.size ≤ gr ∧ X.heap.size ≤ G) := ⟨hgr, hG⟩
  have z2 := (HTC.out w1 (K1.out.mono (fun _ _ h => h.elim))).2.1
  have HOF := hid (Bz.rof_any bo bc B w1 (by omega) HBB.out (HBX.out.kp K1.out (fun _ _ _ h => h)))
  clear k1 r1 hgr hG HNR
  go_wp2_with fail
  refine HOF.out.mono ?_
  rintro e w2 ⟨go, c2, rfl, o2, b2⟩
  have hos := o2.src
  have K2 : Hid (Kp (fun _ => False) X w2) := K1.out.trans (Kp.of_below (F := fun _ => False) b2) (fun _ _ h => h)
  have R2 : Hid (Bz.Rd w2 gr (some ⟨G, 0, none⟩) B.length B 0) := R1.out.ok (Bz.Kp.of_below b2)
  have hgo : w1.heap.size ≤ go ∧ go < w2.heap.size := o2.lt go rfl
  have S2 : Hid (Bz.Src w2 (some ⟨go, 0, none⟩) (Bz.dig 2 V T)) := by rw [Hid, HVV.out, HTT.out]; exact hos.1
  have HGO : Hid (go ≠ gr) := fun e => by have := R1.out; obtain ⟨_, _, r⟩ := this; have := r.st; have := (Array.getElem?_eq_some_iff.1 this).1; omega
  have hcc : T ≤ c2 := by
    rcases o2 with ⟨e, _⟩ | ⟨g', cp, tl, e, _, _, h5, _⟩
    · cases e
    · simp only [Value.slice.injEq] at e
      have := e.2.2
      rw [List.length_append, Bz.dig_length] at h5
      have := HTT.out
      omega
  clear o2 b2 hos HOF R1 K1 hgo
  rw [← HTT.out]
  have hz3 := (HTC.out w2 (K2.out.mono (fun _ _ h => h.elim))).2.2
  have hd0 : (0 : Int) ≤ (p : Int) := by omega
  have hd1 : (p : Int) ≤ (T : Int) := by omega
  have HSK := hid (Bz.skip_ok gr (some ⟨G, 0, none⟩) B.length B 0 p w2 R2.out (by have := HTT.out; omega))
  go_wp2_with fail
  refine HSK.out.mono ?_
  rintro e w3 ⟨rfl, r3, k3⟩
  rw [Nat.zero_add] at r3
  have R3 := hid r3
  have K3 := hid (kpB k3)
  clear r3 k3 HSK R2 hz3
  go_wp2_with (first | (go_at_call 13; refine (HNU.out _ _).mono ?_; rintro e1 w9 ⟨rfl, rfl⟩))
  go_loopw [7] (fun v7 wr => ∃ (q : Nat), v7 = .int .i64 (q : Int) ∧ q ≤ T ∧ Hid (Bz.Rd wr gr (some ⟨G, 0, none⟩) B.length B q) ∧ Hid (Kp (fun i => i = gr) w2 wr)) (fun v7 _ => T + 1 - (intOf v7).toNat)
  case atStart => exact ⟨p, rfl, hpT, R3, K3⟩
  case round =>
    clear R3 K3
    obtain ⟨q, rfl, hq, HR, HK⟩ := hrel
    have HKX : Hid (Kp (fun i => i = gr) X wr) := (K2.out.mono (fun _ _ h => h.elim)).trans HK.out (fun _ _ e => e)
    have HTK := hid (take_any wr g gr la ca sa (some ⟨G, 0, none⟩) lc cc sc B.length zs S B q (HCX.out.kpf HKX.out (fun i hi e => by have := HLT.out i hi; have := HGR.out.1; omega)) HR.out (fun i hi e => by have := HLT.out i hi; have := HGR.out.1; omega))
    rw [← HVV.out, ← HTT.out] at HTK
    obtain ⟨t, ht⟩ : ∃ t, t = min 15 (T - q) := ⟨_, rfl⟩
    have hw15 : IntKind.i64.wrap ((q : Int) + 15) = (q : Int) + 15 := by rw [IntKind.wrap_i64]; omega
    rw [← ht] at HTK
    have HT15 := hid ht
    have HRT : Hid (∀ U A, Kp (fun _ => False) wr U ∨ Kp (fun i => i = gr) wr U → (0 < t → A = q) → Calls Try.prog 66 #[.slice ao zs.length oc, .slice (some ⟨go, A, none⟩) t (c2 - q)] U fun e w' => ∃ s n er : Int, e = .returned (.tuple #[.int .i64 s, .int .i64 n, .int .i64 er]) ∧ Dec zs (bt V q) t s n er ∧ Below U.heap.size U w') := fun U A kk hA => by
      have kU : Kp (fun i => i = gr) wr U := kk.elim (fun k => k.mono (fun _ _ h => h.elim)) (fun k => k)
      have kX : Kp (fun i => i = gr) X U := HKX.out.trans kU (fun _ _ e => e)
      have k2U : Kp (fun i => i = gr) w2 U := HK.out.trans kU (fun _ _ e => e)
      have sO : Bz.Src U (some ⟨go, 0, none⟩) (Bz.dig 2 V T) := S2.out.kp (kpZ k2U) (fun b off e => by cases e; exact HGO.out)
      obtain ⟨c1, c2', c3⟩ := src_cut sO (p := q) (t := t) (by omega) A hA
      have sZ : Src .i64 U ao zs := fun hp => HSX.out.kp kX (fun b off e h => by have := HLO.out hp b off e; have := HGR.out.1; omega) hp
      exact rtk_any U ao (some ⟨go, A, none⟩) oc (c2 - q) t zs _ (bt V q) sZ c1 c2' (by omega) c3 (fun k => by unfold bt; omega) HWI.out hzl
    have HUQ : Hid (∀ {s n e s' n' e' : Int}, Dec zs (bt V q) t s n e → Dec zs (bt V q) t s' n' e' → s = s' ∧ n = n' ∧ e = e') := fun h h' => Dec.uniq HWI.out (by omega) h h'
    go_wp2_with fail
    refine HTK.out.mono ?_
    rintro e w4 ⟨sy, er, n4, rfl, d4, l4, r4, k4⟩
    have D4 := hid d4
    have R4 := hid r4
    have K4 := hid k4
    have K4X : Hid (Kp (fun i => i = gr) X w4) := HKX.out.trans k4 (fun _ _ e => e)
    have HPR : Hid (∀ U, Kp (fun _ => False) w4 U → U.cell? ⟨Q, 0, none⟩ = some (.slice ao zs.length oc)) := fun U k => (HTC.out U ((K4X.out.trans k (fun _ _ h => h.elim)).mono (fun i _ e => by have := HGR.out.1; omega))).1
    have KD : Hid (Kp (fun _ => False) w4 w4.drew) := (Kp.refl _ _).drew
    have cc0 := HPR.out w4 (Kp.refl _ _)
    have cd0 := HPR.out w4.drew KD.out
    have HAT : Hid (∀ U, Kp (fun _ => False) w4 U → Calls Try.prog 42 #[.pointer (some ⟨gr, 0, none⟩)] U fun e w' => e = .returned (.int .i64 ((q + n4 : Nat) : Int)) ∧ Kp (fun _ => False) U w') := fun U k => (Bz.at_k gr (some ⟨G, 0, none⟩) B.length B (q + n4) U (R4.out.ok (kpZ k))).mono (fun e w' ⟨h1, h2⟩ => ⟨h1, kpB h2⟩)
    clear d4 r4 k4 HTK HR
    by_cases hq15 : (q : Int) + 15 ≤ (T : Int)
    · have hmn : min ((q : Int) + 15) (T : Int) = (q : Int) + 15 := by omega
      have hmn2 : ¬ (T : Int) < (q : Int) + 15 := by omega
      have hte : t = 15 := by omega
      have HR6 := hid (HRT.out w4.drew q (.inr (K4.out.drew)) (fun _ => rfl))
      rw [hte] at HR6
      have HTE := hid hte
      clear hte
      have hcq : ¬ c2 = q := by omega
      have hs1 : (q : Int) + 15 ≤ (c2 : Int) := by omega
      have hs1n : q + 15 ≤ c2 := by omega
      have hs0 : (0 : Int) ≤ (q : Int) := by omega
      have hs3 : (0 : Int) ≤ (q : Int) + 15 := by omega
      have hs2 : (q : Int) ≤ (q : Int) + 15 := by omega
      clear HRT
      go_wp2_with fail
      change (Code.region 11 o38r11 true).wp _ _ _ _
      refine wp_region_plan (fun U => Kp (fun _ => False) w4 U) [] c38r11 p38r11_0 hmix b38r11 d38r11 (fun _ _ d _ _ h => by cases d <;> exact h) ?_
      refine plan_take (o := q38r11_0) (r := p38r11_1) ?va0 KD.out (by rfl) ?hya0 ?resta0
      case hya0 => (intro w hSw; (try dsimp only at hSw); simp only [q38r11_0]; go_simp; try with_reducible rfl)
      try simp only [q38r11_0, Act.put, List.setIfInBounds_toArray, List.set_cons_zero, List.set_cons_succ]
      refine plan_take (o := q38r11_1) (r := p38r11_2) (.slice ao zs.length oc) KD.out (by rfl) ?hya1 ?resta1
      case hya1 => (intro w hSw; (try dsimp only at hSw); have y1 := HPR.out _ hSw; simp only [q38r11_1]; go_simp; try with_reducible rfl)
      try simp only [q38r11_1, Act.put, List.setIfInBounds_toArray, List.set_cons_zero, List.set_cons_succ]
      refine plan_take (o := q38r11_2) (r := p38r11_3) ?va2 KD.out (by rfl) ?hya2 ?resta2
      case hya2 => (intro w hSw; (try dsimp only at hSw); simp only [q38r11_2]; go_simp; try with_reducible rfl)
      try simp only [q38r11_2, Act.put, List.setIfInBounds_toArray, List.set_cons_zero, List.set_cons_succ]
      refine plan_take (o := q38r11_3) (r := p38r11_4) ?va3 KD.out (by rfl) ?hya3 ?resta3
      case hya3 => (intro w hSw; (try dsimp only at hSw); simp only [q38r11_3]; go_simp; try with_reducible rfl)
      try simp only [q38r11_3, Act.put, List.setIfInBounds_toArray, List.set_cons_zero, List.set_cons_succ]
      refine plan_take (o := q38r11_4) (r := p38r11_5) ?va4 KD.out (by rfl) ?hya4 ?resta4
      case hya4 => (intro w hSw; (try dsimp only at hSw); simp only [q38r11_4]; go_simp; try with_reducible rfl)
      try simp only [q38r11_4, Act.put, List.setIfInBounds_toArray, List.set_cons_zero, List.set_cons_succ]
      refine plan_take (o := q38r11_5) (r := p38r11_6) ?va5 KD.out (by rfl) ?hya5 ?resta5
      case hya5 => (intro w hSw; (try dsimp only at hSw); simp only [q38r11_5]; go_simp; try with_reducible rfl)
      try simp only [q38r11_5, Act.put, List.setIfInBounds_toArray, List.set_cons_zero, List.set_cons_succ]
      refine plan_take (o := q38r11_6) (r := p38r11_7) ?va6 KD.out (by rfl) ?hya6 ?resta6
      case hya6 => (intro w hSw; (try dsimp only at hSw); simp only [q38r11_6]; go_simp; try with_reducible rfl)
      try simp only [q38r11_6, Act.put, List.setIfInBounds_toArray, List.set_cons_zero, List.set_cons_succ]
      refine plan_take (o := q38r11_7) (r := p38r11_8) ?va7 KD.out (by rfl) ?hya7 ?resta7
      case hya7 => (intro w hSw; (try dsimp only at hSw); simp only [q38r11_7]; go_simp; try with_reducible rfl)
      try simp only [q38r11_7, Act.put, List.setIfInBounds_toArray, List.set_cons_zero, List.set_cons_succ]
      refine plan_take (o := q38r11_8) (r := p38r11_9) (.int .i64 ((q : Int) + 15)) KD.out (by rfl) ?hya8 ?resta8
      case hya8 => (intro w hSw; simp only [q38r11_8]; go_simp; (try with_reducible rfl); try omega)
      try simp only [q38r11_8, Act.put, List.setIfInBounds_toArray, List.set_cons_zero, List.set_cons_succ]
      refine plan_take (o := q38r11_9) (r := p38r11_10) (.slice (some ⟨go, q, none⟩) 15 (c2 - q)) KD.out (by rfl) ?hya9 ?resta9
      case hya9 => (intro w hSw; simp only [q38r11_9]; go_simp; (try with_reducible rfl); try omega)
      try simp only [q38r11_9, Act.put, List.setIfInBounds_toArray, List.set_cons_zero, List.set_cons_succ]
      refine plan_act (o := q38r11_10) (r := p38r11_11) (fun K hK => ?_)
      simp only [q38r11_10]
      refine ite_pos2 (by rfl) ?_
      go_simp
      refine HR6.out.mono ?_
      rintro e w5 ⟨s5, n5, e5, rfl, d5, b5⟩
      rw [← HTE.out] at d5
      obtain ⟨h1, h2, h3⟩ := HUQ.out D4.out d5
      subst h1 h2 h3
      have K5 : Hid (Kp (fun _ => False) w4 w5) := KD.out.trans (Kp.of_below (F := fun _ => False) b5) (fun _ _ h => h)
      have HA5 := hid (HAT.out w5 K5.out)
      clear b5 d5 HR6
      go_wp2_with fail
      refine hK.out _ _ (fun _ => K5.out) ?_
      clear hK K
      try simp only [q38r11_10, Act.put, List.setIfInBounds_toArray, List.set_cons_zero, List.set_cons_succ]
      refine plan_take (o := q38r11_11) (r := p38r11_12) ?va11 K5.out (by rfl) ?hya11 ?resta11
      case hya11 => (intro w hSw; (try dsimp only at hSw); simp only [q38r11_11]; go_simp; try with_reducible rfl)
      try simp only [q38r11_11, Act.put, List.setIfInBounds_toArray, List.set_cons_zero, List.set_cons_succ]
      refine plan_take (o := q38r11_12) (r := p38r11_13) ?va12 K5.out (by rfl) ?hya12 ?resta12
      case hya12 => (intro w hSw; (try dsimp only at hSw); simp only [q38r11_12]; go_simp; try with_reducible rfl)
      try simp only [q38r11_12, Act.put, List.setIfInBounds_toArray, List.set_cons_zero, List.set_cons_succ]
      refine plan_take (o := q38r11_13) (r := p38r11_14) ?va13 K5.out (by rfl) ?hya13 ?resta13
      case hya13 => (intro w hSw; (try dsimp only at hSw); simp only [q38r11_13]; go_simp; try with_reducible rfl)
      try simp only [q38r11_13, Act.put, List.setIfInBounds_toArray, List.set_cons_zero, List.set_cons_succ]
      refine plan_take (o := q38r11_14) (r := p38r11_15) ?va14 K5.out (by rfl) ?hya14 ?resta14
      case hya14 => (intro w hSw; (try dsimp only at hSw); simp only [q38r11_14]; go_simp; try with_reducible rfl)
      try simp only [q38r11_14, Act.put, List.setIfInBounds_toArray, List.set_cons_zero, List.set_cons_succ]
      refine plan_take (o := q38r11_15) (r := p38r11_16) ?va15 K5.out (by rfl) ?hya15 ?resta15
      case hya15 => (intro w hSw; (try dsimp only at hSw); simp only [q38r11_15]; go_simp; try with_reducible rfl)
      try simp only [q38r11_15, Act.put, List.setIfInBounds_toArray, List.set_cons_zero, List.set_cons_succ]
      refine plan_take (o := q38r11_16) (r := p38r11_17) ?va16 K5.out (by rfl) ?hya16 ?resta16
      case hya16 => (intro w hSw; (try dsimp only at hSw); simp only [q38r11_16]; go_simp; try with_reducible rfl)
      try simp only [q38r11_16, Act.put, List.setIfInBounds_toArray, List.set_cons_zero, List.set_cons_succ]
      refine plan_take (o := q38r11_17) (r := p38r11_18) ?va17 K5.out (by rfl) ?hya17 ?resta17
      case hya17 => (intro w hSw; (try dsimp only at hSw); simp only [q38r11_17]; go_simp; try with_reducible rfl)
      try simp only [q38r11_17, Act.put, List.setIfInBounds_toArray, List.set_cons_zero, List.set_cons_succ]
      refine plan_done ?_
      have hsum : IntKind.i64.wrap ((q : Int) + (n4 : Int)) = ((q + n4 : Nat) : Int) := by rw [IntKind.wrap_i64]; omega
      have hsum2 : (q : Int) + (n4 : Int) = ((q + n4 : Nat) : Int) := by omega
      go_wp2_with (first | (go_at_call 13; refine (HNU.out _ _).mono ?_; rintro e1 w9 ⟨rfl, rfl⟩))
      refine HA5.out.mono ?_
      rintro e w6 ⟨rfl, k6⟩
      have K6 : Hid (Kp (fun _ => False) w4 w6) := K5.out.trans k6 (fun _ _ h => h)
      clear k6 HA5 cc0 cd0
      rcases D4.out with ⟨kk, m, _, h2, h3, _⟩ | ⟨_, _, h3, _⟩ | ⟨_, _, h3, _⟩
      · subst h3
        have hn4 : 1 ≤ n4 := by omega
        have R6 := hid (R4.out.ok (kpZ K6.out))
        have K26 : Hid (Kp (fun i => i = gr) w2 w6) := (HK.out.trans K4.out (fun _ _ e => e)).trans K6.out (fun _ _ h => h.elim)
        obtain ⟨qn, hqn⟩ : ∃ qn, qn = q + n4 := ⟨_, rfl⟩
        rw [← hqn] at R6 hsum hsum2 ⊢
        have HQN := hid hqn
        clear hqn
        go_wp2_with fail
        go_roundw
        case rel => exact ⟨qn, by go_num, by have := HQN.out; have := HTT.out; omega, R6, K26⟩
        case measure => simp [intOf]; have := HQN.out; omega
      · subst h3
        have KF : Hid (Kp (fun _ => False) w w6) := (HKA.out.trans ((K4X.out.trans K6.out (fun _ _ h => h.elim)).mono (fun i _ e => e)) (fun i hi e => by have := HGR.out.1; have := HXS.out; omega))
        go_wp2_with fail
        go_ret
        exact ⟨rfl, KF.out⟩
      · subst h3
        have KF : Hid (Kp (fun _ => False) w w6) := (HKA.out.trans ((K4X.out.trans K6.out (fun _ _ h => h.elim)).mono (fun i _ e => e)) (fun i hi e => by have := HGR.out.1; have := HXS.out; omega))
        go_wp2_with fail
        go_ret
        exact ⟨rfl, KF.out⟩
    · have hmn : min ((q : Int) + 15) (T : Int) = (T : Int) := by omega
      have hmn2 : (T : Int) < (q : Int) + 15 := by omega
      have hte : t = T - q := by omega
      have hs1 : (T : Int) ≤ (c2 : Int) := by omega
      have hs2 : (q : Int) ≤ (T : Int) := by omega
      have hs0 : (0 : Int) ≤ (q : Int) := by omega
      by_cases hcq : c2 = q
      · have hTq : T = q := by omega
        have hte0 : t = 0 := by omega
        have HR6 := hid (HRT.out w4.drew 0 (.inr (K4.out.drew)) (fun h => by omega))
        rw [hte0, show c2 - q = 0 by omega] at HR6
        have HTE := hid hte0
        clear hte hte0 hmn
        have HTQ := hid hTq
        clear hTq
        clear HRT
        go_wp2_with fail
        change (Code.region 11 o38r11 true).wp _ _ _ _
        refine wp_region_plan (fun U => Kp (fun _ => False) w4 U) [] c38r11 p38r11_0 hmix b38r11 d38r11 (fun _ _ d _ _ h => by cases d <;> exact h) ?_
        refine plan_take (o := q38r11_0) (r := p38r11_1) ?vb0 KD.out (by rfl) ?hyb0 ?restb0
        case hyb0 => (intro w hSw; (try dsimp only at hSw); simp only [q38r11_0]; go_simp; try with_reducible rfl)
        try simp only [q38r11_0, Act.put, List.setIfInBounds_toArray, List.set_cons_zero, List.set_cons_succ]
        refine plan_take (o := q38r11_1) (r := p38r11_2) (.slice ao zs.length oc) KD.out (by rfl) ?hyb1 ?restb1
        case hyb1 => (intro w hSw; (try dsimp only at hSw); have y1 := HPR.out _ hSw; simp only [q38r11_1]; go_simp; try with_reducible rfl)
        try simp only [q38r11_1, Act.put, List.setIfInBounds_toArray, List.set_cons_zero, List.set_cons_succ]
        refine plan_take (o := q38r11_2) (r := p38r11_3) ?vb2 KD.out (by rfl) ?hyb2 ?restb2
        case hyb2 => (intro w hSw; (try dsimp only at hSw); simp only [q38r11_2]; go_simp; try with_reducible rfl)
        try simp only [q38r11_2, Act.put, List.setIfInBounds_toArray, List.set_cons_zero, List.set_cons_succ]
        refine plan_take (o := q38r11_3) (r := p38r11_4) ?vb3 KD.out (by rfl) ?hyb3 ?restb3
        case hyb3 => (intro w hSw; (try dsimp only at hSw); simp only [q38r11_3]; go_simp; try with_reducible rfl)
        try simp only [q38r11_3, Act.put, List.setIfInBounds_toArray, List.set_cons_zero, List.set_cons_succ]
        refine plan_take (o := q38r11_4) (r := p38r11_5) ?vb4 KD.out (by rfl) ?hyb4 ?restb4
        case hyb4 => (intro w hSw; (try dsimp only at hSw); simp only [q38r11_4]; go_simp; try with_reducible rfl)
        try simp only [q38r11_4, Act.put, List.setIfInBounds_toArray, List.set_cons_zero, List.set_cons_succ]
        refine plan_take (o := q38r11_5) (r := p38r11_6) ?vb5 KD.out (by rfl) ?hyb5 ?restb5
        case hyb5 => (intro w hSw; (try dsimp only at hSw); simp only [q38r11_5]; go_simp; try with_reducible rfl)
        try simp only [q38r11_5, Act.put, List.setIfInBounds_toArray, List.set_cons_zero, List.set_cons_succ]
        refine plan_take (o := q38r11_6) (r := p38r11_7) ?vb6 KD.out (by rfl) ?hyb6 ?restb6
        case hyb6 => (intro w hSw; (try dsimp only at hSw); simp only [q38r11_6]; go_simp; try with_reducible rfl)
        try simp only [q38r11_6, Act.put, List.setIfInBounds_toArray, List.set_cons_zero, List.set_cons_succ]
        refine plan_take (o := q38r11_7) (r := p38r11_8) ?vb7 KD.out (by rfl) ?hyb7 ?restb7
        case hyb7 => (intro w hSw; (try dsimp only at hSw); simp only [q38r11_7]; go_simp; try with_reducible rfl)
        try simp only [q38r11_7, Act.put, List.setIfInBounds_toArray, List.set_cons_zero, List.set_cons_succ]
        refine plan_take (o := q38r11_8) (r := p38r11_9) (.int .i64 ((T : Int))) KD.out (by rfl) ?hyb8 ?restb8
        case hyb8 => (intro w hSw; simp only [q38r11_8]; go_simp; (try with_reducible rfl); try omega)
        try simp only [q38r11_8, Act.put, List.setIfInBounds_toArray, List.set_cons_zero, List.set_cons_succ]
        refine plan_take (o := q38r11_9) (r := p38r11_10) (.slice (some ⟨go, 0, none⟩) 0 0) KD.out (by rfl) ?hyb9 ?restb9
        case hyb9 => (intro w hSw; have hTq := HTQ.out; simp only [q38r11_9]; go_simp; (try with_reducible rfl); try omega)
        try simp only [q38r11_9, Act.put, List.setIfInBounds_toArray, List.set_cons_zero, List.set_cons_succ]
        refine plan_act (o := q38r11_10) (r := p38r11_11) (fun K hK => ?_)
        simp only [q38r11_10]
        refine ite_pos2 (by rfl) ?_
        go_simp
        refine HR6.out.mono ?_
        rintro e w5 ⟨s5, n5, e5, rfl, d5, b5⟩
        rw [← HTE.out] at d5
        obtain ⟨h1, h2, h3⟩ := HUQ.out D4.out d5
        subst h1 h2 h3
        have K5 : Hid (Kp (fun _ => False) w4 w5) := KD.out.trans (Kp.of_below (F := fun _ => False) b5) (fun _ _ h => h)
        have HA5 := hid (HAT.out w5 K5.out)
        clear b5 d5 HR6
        go_wp2_with fail
        refine hK.out _ _ (fun _ => K5.out) ?_
        clear hK K
        try simp only [q38r11_10, Act.put, List.setIfInBounds_toArray, List.set_cons_zero, List.set_cons_succ]
        refine plan_take (o := q38r11_11) (r := p38r11_12) ?vb11 K5.out (by rfl) ?hyb11 ?restb11
        case hyb11 => (intro w hSw; (try dsimp only at hSw); simp only [q38r11_11]; go_simp; try with_reducible rfl)
        try simp only [q38r11_11, Act.put, List.setIfInBounds_toArray, List.set_cons_zero, List.set_cons_succ]
        refine plan_take (o := q38r11_12) (r := p38r11_13) ?vb12 K5.out (by rfl) ?hyb12 ?restb12
        case hyb12 => (intro w hSw; (try dsimp only at hSw); simp only [q38r11_12]; go_simp; try with_reducible rfl)
        try simp only [q38r11_12, Act.put, List.setIfInBounds_toArray, List.set_cons_zero, List.set_cons_succ]
        refine plan_take (o := q38r11_13) (r := p38r11_14) ?vb13 K5.out (by rfl) ?hyb13 ?restb13
        case hyb13 => (intro w hSw; (try dsimp only at hSw); simp only [q38r11_13]; go_simp; try with_reducible rfl)
        try simp only [q38r11_13, Act.put, List.setIfInBounds_toArray, List.set_cons_zero, List.set_cons_succ]
        refine plan_take (o := q38r11_14) (r := p38r11_15) ?vb14 K5.out (by rfl) ?hyb14 ?restb14
        case hyb14 => (intro w hSw; (try dsimp only at hSw); simp only [q38r11_14]; go_simp; try with_reducible rfl)
        try simp only [q38r11_14, Act.put, List.setIfInBounds_toArray, List.set_cons_zero, List.set_cons_succ]
        refine plan_take (o := q38r11_15) (r := p38r11_16) ?vb15 K5.out (by rfl) ?hyb15 ?restb15
        case hyb15 => (intro w hSw; (try dsimp only at hSw); simp only [q38r11_15]; go_simp; try with_reducible rfl)
        try simp only [q38r11_15, Act.put, List.setIfInBounds_toArray, List.set_cons_zero, List.set_cons_succ]
        refine plan_take (o := q38r11_16) (r := p38r11_17) ?vb16 K5.out (by rfl) ?hyb16 ?restb16
        case hyb16 => (intro w hSw; (try dsimp only at hSw); simp only [q38r11_16]; go_simp; try with_reducible rfl)
        try simp only [q38r11_16, Act.put, List.setIfInBounds_toArray, List.set_cons_zero, List.set_cons_succ]
        refine plan_take (o := q38r11_17) (r := p38r11_18) ?vb17 K5.out (by rfl) ?hyb17 ?restb17
        case hyb17 => (intro w hSw; (try dsimp only at hSw); simp only [q38r11_17]; go_simp; try with_reducible rfl)
        try simp only [q38r11_17, Act.put, List.setIfInBounds_toArray, List.set_cons_zero, List.set_cons_succ]
        refine plan_done ?_
        have hsum : IntKind.i64.wrap ((q : Int) + (n4 : Int)) = ((q + n4 : Nat) : Int) := by rw [IntKind.wrap_i64]; omega
        have hsum2 : (q : Int) + (n4 : Int) = ((q + n4 : Nat) : Int) := by omega
        go_wp2_with (first | (go_at_call 13; refine (HNU.out _ _).mono ?_; rintro e1 w9 ⟨rfl, rfl⟩))
        refine HA5.out.mono ?_
        rintro e w6 ⟨rfl, k6⟩
        have K6 : Hid (Kp (fun _ => False) w4 w6) := K5.out.trans k6 (fun _ _ h => h)
        clear k6 HA5 cc0 cd0
        rcases D4.out with ⟨kk, m, _, h2, h3, h4, _⟩ | ⟨_, _, h3, _⟩ | ⟨_, _, h3, _⟩
        · subst h3
          exfalso
          have h9 := HTE.out
          omega
        · subst h3
          have KF : Hid (Kp (fun _ => False) w w6) := (HKA.out.trans ((K4X.out.trans K6.out (fun _ _ h => h.elim)).mono (fun i _ e => e)) (fun i hi e => by have := HGR.out.1; have := HXS.out; omega))
          go_wp2_with fail
          go_ret
          exact ⟨rfl, KF.out⟩
        · subst h3
          have KF : Hid (Kp (fun _ => False) w w6) := (HKA.out.trans ((K4X.out.trans K6.out (fun _ _ h => h.elim)).mono (fun i _ e => e)) (fun i hi e => by have := HGR.out.1; have := HXS.out; omega))
          go_wp2_with fail
          go_ret
          exact ⟨rfl, KF.out⟩
      · have HR6 := hid (HRT.out w4.drew q (.inr (K4.out.drew)) (fun _ => rfl))
        rw [hte] at HR6
        have HTE := hid hte
        clear hte hmn
        clear HRT
        go_wp2_with fail
        change (Code.region 11 o38r11 true).wp _ _ _ _
        refine wp_region_plan (fun U => Kp (fun _ => False) w4 U) [] c38r11 p38r11_0 hmix b38r11 d38r11 (fun _ _ d _ _ h => by cases d <;> exact h) ?_
        refine plan_take (o := q38r11_0) (r := p38r11_1) ?vc0 KD.out (by rfl) ?hyc0 ?restc0
        case hyc0 => (intro w hSw; (try dsimp only at hSw); simp only [q38r11_0]; go_simp; try with_reducible rfl)
        try simp only [q38r11_0, Act.put, List.setIfInBounds_toArray, List.set_cons_zero, List.set_cons_succ]
        refine plan_take (o := q38r11_1) (r := p38r11_2) (.slice ao zs.length oc) KD.out (by rfl) ?hyc1 ?restc1
        case hyc1 => (intro w hSw; (try dsimp only at hSw); have y1 := HPR.out _ hSw; simp only [q38r11_1]; go_simp; try with_reducible rfl)
        try simp only [q38r11_1, Act.put, List.setIfInBounds_toArray, List.set_cons_zero, List.set_cons_succ]
        refine plan_take (o := q38r11_2) (r := p38r11_3) ?vc2 KD.out (by rfl) ?hyc2 ?restc2
        case hyc2 => (intro w hSw; (try dsimp only at hSw); simp only [q38r11_2]; go_simp; try with_reducible rfl)
        try simp only [q38r11_2, Act.put, List.setIfInBounds_toArray, List.set_cons_zero, List.set_cons_succ]
        refine plan_take (o := q38r11_3) (r := p38r11_4) ?vc3 KD.out (by rfl) ?hyc3 ?restc3
        case hyc3 => (intro w hSw; (try dsimp only at hSw); simp only [q38r11_3]; go_simp; try with_reducible rfl)
        try simp only [q38r11_3, Act.put, List.setIfInBounds_toArray, List.set_cons_zero, List.set_cons_succ]
        refine plan_take (o := q38r11_4) (r := p38r11_5) ?vc4 KD.out (by rfl) ?hyc4 ?restc4
        case hyc4 => (intro w hSw; (try dsimp only at hSw); simp only [q38r11_4]; go_simp; try with_reducible rfl)
        try simp only [q38r11_4, Act.put, List.setIfInBounds_toArray, List.set_cons_zero, List.set_cons_succ]
        refine plan_take (o := q38r11_5) (r := p38r11_6) ?vc5 KD.out (by rfl) ?hyc5 ?restc5
        case hyc5 => (intro w hSw; (try dsimp only at hSw); simp only [q38r11_5]; go_simp; try with_reducible rfl)
        try simp only [q38r11_5, Act.put, List.setIfInBounds_toArray, List.set_cons_zero, List.set_cons_succ]
        refine plan_take (o := q38r11_6) (r := p38r11_7) ?vc6 KD.out (by rfl) ?hyc6 ?restc6
        case hyc6 => (intro w hSw; (try dsimp only at hSw); simp only [q38r11_6]; go_simp; try with_reducible rfl)
        try simp only [q38r11_6, Act.put, List.setIfInBounds_toArray, List.set_cons_zero, List.set_cons_succ]
        refine plan_take (o := q38r11_7) (r := p38r11_8) ?vc7 KD.out (by rfl) ?hyc7 ?restc7
        case hyc7 => (intro w hSw; (try dsimp only at hSw); simp only [q38r11_7]; go_simp; try with_reducible rfl)
        try simp only [q38r11_7, Act.put, List.setIfInBounds_toArray, List.set_cons_zero, List.set_cons_succ]
        refine plan_take (o := q38r11_8) (r := p38r11_9) (.int .i64 ((T : Int))) KD.out (by rfl) ?hyc8 ?restc8
        case hyc8 => (intro w hSw; simp only [q38r11_8]; go_simp; (try with_reducible rfl); try omega)
        try simp only [q38r11_8, Act.put, List.setIfInBounds_toArray, List.set_cons_zero, List.set_cons_succ]
        refine plan_take (o := q38r11_9) (r := p38r11_10) (.slice (some ⟨go, q, none⟩) (T - q) (c2 - q)) KD.out (by rfl) ?hyc9 ?restc9
        case hyc9 => (intro w hSw; simp only [q38r11_9]; go_simp; (try with_reducible rfl); try omega)
        try simp only [q38r11_9, Act.put, List.setIfInBounds_toArray, List.set_cons_zero, List.set_cons_succ]
        refine plan_act (o := q38r11_10) (r := p38r11_11) (fun K hK => ?_)
        simp only [q38r11_10]
        refine ite_pos2 (by rfl) ?_
        go_simp
        refine HR6.out.mono ?_
        rintro e w5 ⟨s5, n5, e5, rfl, d5, b5⟩
        rw [← HTE.out] at d5
        obtain ⟨h1, h2, h3⟩ := HUQ.out D4.out d5
        subst h1 h2 h3
        have K5 : Hid (Kp (fun _ => False) w4 w5) := KD.out.trans (Kp.of_below (F := fun _ => False) b5) (fun _ _ h => h)
        have HA5 := hid (HAT.out w5 K5.out)
        clear b5 d5 HR6
        go_wp2_with fail
        refine hK.out _ _ (fun _ => K5.out) ?_
        clear hK K
        try simp only [q38r11_10, Act.put, List.setIfInBounds_toArray, List.set_cons_zero, List.set_cons_succ]
        refine plan_take (o := q38r11_11) (r := p38r11_12) ?vc11 K5.out (by rfl) ?hyc11 ?restc11
        case hyc11 => (intro w hSw; (try dsimp only at hSw); simp only [q38r11_11]; go_simp; try with_reducible rfl)
        try simp only [q38r11_11, Act.put, List.setIfInBounds_toArray, List.set_cons_zero, List.set_cons_succ]
        refine plan_take (o := q38r11_12) (r := p38r11_13) ?vc12 K5.out (by rfl) ?hyc12 ?restc12
        case hyc12 => (intro w hSw; (try dsimp only at hSw); simp only [q38r11_12]; go_simp; try with_reducible rfl)
        try simp only [q38r11_12, Act.put, List.setIfInBounds_toArray, List.set_cons_zero, List.set_cons_succ]
        refine plan_take (o := q38r11_13) (r := p38r11_14) ?vc13 K5.out (by rfl) ?hyc13 ?restc13
        case hyc13 => (intro w hSw; (try dsimp only at hSw); simp only [q38r11_13]; go_simp; try with_reducible rfl)
        try simp only [q38r11_13, Act.put, List.setIfInBounds_toArray, List.set_cons_zero, List.set_cons_succ]
        refine plan_take (o := q38r11_14) (r := p38r11_15) ?vc14 K5.out (by rfl) ?hyc14 ?restc14
        case hyc14 => (intro w hSw; (try dsimp only at hSw); simp only [q38r11_14]; go_simp; try with_reducible rfl)
        try simp only [q38r11_14, Act.put, List.setIfInBounds_toArray, List.set_cons_zero, List.set_cons_succ]
        refine plan_take (o := q38r11_15) (r := p38r11_16) ?vc15 K5.out (by rfl) ?hyc15 ?restc15
        case hyc15 => (intro w hSw; (try dsimp only at hSw); simp only [q38r11_15]; go_simp; try with_reducible rfl)
        try simp only [q38r11_15, Act.put, List.setIfInBounds_toArray, List.set_cons_zero, List.set_cons_succ]
        refine plan_take (o := q38r11_16) (r := p38r11_17) ?vc16 K5.out (by rfl) ?hyc16 ?restc16
        case hyc16 => (intro w hSw; (try dsimp only at hSw); simp only [q38r11_16]; go_simp; try with_reducible rfl)
        try simp only [q38r11_16, Act.put, List.setIfInBounds_toArray, List.set_cons_zero, List.set_cons_succ]
        refine plan_take (o := q38r11_17) (r := p38r11_18) ?vc17 K5.out (by rfl) ?hyc17 ?restc17
        case hyc17 => (intro w hSw; (try dsimp only at hSw); simp only [q38r11_17]; go_simp; try with_reducible rfl)
        try simp only [q38r11_17, Act.put, List.setIfInBounds_toArray, List.set_cons_zero, List.set_cons_succ]
        refine plan_done ?_
        have hsum : IntKind.i64.wrap ((q : Int) + (n4 : Int)) = ((q + n4 : Nat) : Int) := by rw [IntKind.wrap_i64]; omega
        have hsum2 : (q : Int) + (n4 : Int) = ((q + n4 : Nat) : Int) := by omega
        go_wp2_with (first | (go_at_call 13; refine (HNU.out _ _).mono ?_; rintro e1 w9 ⟨rfl, rfl⟩))
        refine HA5.out.mono ?_
        rintro e w6 ⟨rfl, k6⟩
        have K6 : Hid (Kp (fun _ => False) w4 w6) := K5.out.trans k6 (fun _ _ h => h)
        clear k6 HA5 cc0 cd0
        rcases D4.out with ⟨kk, m, _, h2, h3, _⟩ | ⟨_, _, h3, _⟩ | ⟨_, _, h3, _⟩
        · subst h3
          have hn4 : 1 ≤ n4 := by omega
          have R6 := hid (R4.out.ok (kpZ K6.out))
          have K26 : Hid (Kp (fun i => i = gr) w2 w6) := (HK.out.trans K4.out (fun _ _ e => e)).trans K6.out (fun _ _ h => h.elim)
          obtain ⟨qn, hqn⟩ : ∃ qn, qn = q + n4 := ⟨_, rfl⟩
          rw [← hqn] at R6 hsum hsum2 ⊢
          have HQN := hid hqn
          clear hqn
          go_wp2_with fail
          go_roundw
          case rel => exact ⟨qn, by go_num, by have := HQN.out; have := HTT.out; omega, R6, K26⟩
          case measure => simp [intOf]; have := HQN.out; omega
        · subst h3
          have KF : Hid (Kp (fun _ => False) w w6) := (HKA.out.trans ((K4X.out.trans K6.out (fun _ _ h => h.elim)).mono (fun i _ e => e)) (fun i hi e => by have := HGR.out.1; have := HXS.out; omega))
          go_wp2_with fail
          go_ret
          exact ⟨rfl, KF.out⟩
        · subst h3
          have KF : Hid (Kp (fun _ => False) w w6) := (HKA.out.trans ((K4X.out.trans K6.out (fun _ _ h => h.elim)).mono (fun i _ e => e)) (fun i hi e => by have := HGR.out.1; have := HXS.out; omega))
          go_wp2_with fail
          go_ret
          exact ⟨rfl, KF.out⟩
set_option maxRecDepth 100000 in
set_option maxHeartbeats 8000000 in
theorem takes_low (w : World) (g : Nat) (la ca sa ao so bo : Option Addr) (lc cc sc oc tc bc tn : Nat) (zs S B : List Int) (skip leave : Int) (hsk : skip < 0) (h : Cd w g la ca sa lc cc sc zs S) (hlt : ∀ i, Cdf g la ca sa i → i < w.heap.size) (hs : Src .i64 w ao zs) (hB : Src .u8 w bo B) (hBl : B.length ≤ 400) (hBb : Bz.Byt B) :
    Calls Try.prog 38 #[.pointer (some ⟨g, 0, none⟩), .agg #[.slice ao zs.length oc, .slice so tn tc, .slice bo B.length bc, .int .i64 skip, .int .i64 leave]] w fun e w' => e = .returned (.bool true) ∧ Kp (fun _ => False) w w' := by
  obtain ⟨X, hX⟩ : ∃ X, X = w.alloc (.cells #[.slice ao zs.length oc, .slice so tn tc, .slice bo B.length bc, .int .i64 skip, .int .i64 leave] 52) := ⟨_, rfl⟩
  have ka : Kp (fun _ => False) w X := by rw [hX]; exact (Kp.refl _ _).alloc _
  have hXs : X.heap.size = w.heap.size + 1 := by rw [hX]; exact World.size_alloc _ _
  have HTC : Hid (∀ U, Kp (fun i => X.heap.size ≤ i) X U → U.cell? ⟨w.heap.size, 0, none⟩ = some (.slice ao zs.length oc) ∧ U.cell? ⟨w.heap.size, 2, none⟩ = some (.slice bo B.length bc) ∧ U.cell? ⟨w.heap.size, 3, none⟩ = some (.int .i64 skip)) := fun U k => by
    have h0 : X.heap[w.heap.size]? = some (.cells #[.slice ao zs.length oc, .slice so tn tc, .slice bo B.length bc, .int .i64 skip, .int .i64 leave] 52 (0, 0)) := by rw [hX]; exact heap_alloc_new w _
    have h1 := (k.block w.heap.size (by omega) (by omega)).trans h0
    exact ⟨by rw [cell_of_row U _ 0 _ 52 _ h1]; rfl, by rw [cell_of_row U _ 2 _ 52 _ h1]; rfl, by rw [cell_of_row U _ 3 _ 52 _ h1]; rfl⟩
  have HNR := hid (Bz.newr_any bo bc B X (by omega) hBb (hB.kp ka (fun _ _ _ h => h)))
  have HSX := hid (hs.kp ka (fun _ _ _ h => h))
  have HBX : Hid (Src .u8 X bo B) := hB.kp ka (fun _ _ _ h => h)
  have HCX := hid (h.ok ka)
  have HKA := hid ka
  have HLT : Hid (∀ i, Cdf g la ca sa i → i < X.heap.size) := fun i hi => by have := hlt i hi; omega
  have HLO : Hid (0 < zs.length → ∀ b off, ao = some ⟨b, off, none⟩ → b < X.heap.size) := fun hp b off e => by have := src_low hs hp b off e; omega
  have HBB := hid hBb
  have HNU := hid num_any
  have hzl : zs.length ≤ 320 := h.hl
  have HWI := hid h.hw
  have HXS := hid hXs
  obtain ⟨V, hV⟩ : ∃ V, V = Bz.und 256 B := ⟨_, rfl⟩
  obtain ⟨T, hT⟩ : ∃ T, T = 8 * B.length := ⟨_, rfl⟩
  have HVV := hid hV
  have HTT := hid hT
  have hT4 : T ≤ 3200 := by omega
  clear h hlt hs hB hBb ka hXs hV
  go_enter Try.func38, Try.ntmps38
  go_wp2_with fail
  rw [← hX]
  clear hX
  obtain ⟨Q, hQ⟩ : ∃ Q, Q = w.heap.size := ⟨_, rfl⟩
  rw [← hQ] at HTC ⊢
  have z2 := (HTC.out X (Kp.refl _ _)).2.1
  clear hQ hT
  go_wp2_with fail
  refine HNR.out.mono ?_
  rintro e w1 ⟨gr, G, rfl, hgr, hG, r1, k1⟩
  have K1 := hid (kpB k1)
  have R1 := hid r1
  have HGR : Hid (X.heap.size ≤ gr ∧ X.heap.size ≤ G) := ⟨hgr, hG⟩
  have z2 := (HTC.out w1 (K1.out.mono (fun _ _ h => h.elim))).2.1
  have HOF := hid (Bz.rof_any bo bc B w1 (by omega) HBB.out (HBX.out.kp K1.out (fun _ _ _ h => h)))
  clear k1 r1 hgr hG HNR
  go_wp2_with fail
  refine HOF.out.mono ?_
  rintro e w2 ⟨go, c2, rfl, o2, b2⟩
  have hos := o2.src
  have K2 : Hid (Kp (fun _ => False) X w2) := K1.out.trans (Kp.of_below (F := fun _ => False) b2) (fun _ _ h => h)
  have R2 : Hid (Bz.Rd w2 gr (some ⟨G, 0, none⟩) B.length B 0) := R1.out.ok (Bz.Kp.of_below b2)
  have hgo : w1.heap.size ≤ go ∧ go < w2.heap.size := o2.lt go rfl
  have S2 : Hid (Bz.Src w2 (some ⟨go, 0, none⟩) (Bz.dig 2 V T)) := by rw [Hid, HVV.out, HTT.out]; exact hos.1
  have HGO : Hid (go ≠ gr) := fun e => by have := R1.out; obtain ⟨_, _, r⟩ := this; have := r.st; have := (Array.getElem?_eq_some_iff.1 this).1; omega
  have hcc : T ≤ c2 := by
    rcases o2 with ⟨e, _⟩ | ⟨g', cp, tl, e, _, _, h5, _⟩
    · cases e
    · simp only [Value.slice.injEq] at e
      have := e.2.2
      rw [List.length_append, Bz.dig_length] at h5
      have := HTT.out
      omega
  clear o2 b2 hos HOF R1 K1 hgo
  rw [← HTT.out]
  have hz3 := (HTC.out w2 (K2.out.mono (fun _ _ h => h.elim))).2.2
  have R3 := R2
  have K3 : Hid (Kp (fun i => i = gr) w2 w2) := Kp.refl _ _
  clear R2
  have hd1 : decide (0 ≤ skip) = false := by simpa using hsk
  have hd2 : ¬ 0 ≤ skip := by omega
  go_wp2_with fail
  go_loopw [7] (fun v7 wr => ∃ (q : Nat), v7 = .int .i64 (q : Int) ∧ q ≤ T ∧ Hid (Bz.Rd wr gr (some ⟨G, 0, none⟩) B.length B q) ∧ Hid (Kp (fun i => i = gr) w2 wr)) (fun v7 _ => T + 1 - (intOf v7).toNat)
  case atStart => exact ⟨0, rfl, Nat.zero_le _, R3, K3⟩
  case round =>
    clear R3 K3
    obtain ⟨q, rfl, hq, HR, HK⟩ := hrel
    have HKX : Hid (Kp (fun i => i = gr) X wr) := (K2.out.mono (fun _ _ h => h.elim)).trans HK.out (fun _ _ e => e)
    have HTK := hid (take_any wr g gr la ca sa (some ⟨G, 0, none⟩) lc cc sc B.length zs S B q (HCX.out.kpf HKX.out (fun i hi e => by have := HLT.out i hi; have := HGR.out.1; omega)) HR.out (fun i hi e => by have := HLT.out i hi; have := HGR.out.1; omega))
    rw [← HVV.out, ← HTT.out] at HTK
    obtain ⟨t, ht⟩ : ∃ t, t = min 15 (T - q) := ⟨_, rfl⟩
    have hw15 : IntKind.i64.wrap ((q : Int) + 15) = (q : Int) + 15 := by rw [IntKind.wrap_i64]; omega
    rw [← ht] at HTK
    have HT15 := hid ht
    have HRT : Hid (∀ U A, Kp (fun _ => False) wr U ∨ Kp (fun i => i = gr) wr U → (0 < t → A = q) → Calls Try.prog 66 #[.slice ao zs.length oc, .slice (some ⟨go, A, none⟩) t (c2 - q)] U fun e w' => ∃ s n er : Int, e = .returned (.tuple #[.int .i64 s, .int .i64 n, .int .i64 er]) ∧ Dec zs (bt V q) t s n er ∧ Below U.heap.size U w') := fun U A kk hA => by
      have kU : Kp (fun i => i = gr) wr U := kk.elim (fun k => k.mono (fun _ _ h => h.elim)) (fun k => k)
      have kX : Kp (fun i => i = gr) X U := HKX.out.trans kU (fun _ _ e => e)
      have k2U : Kp (fun i => i = gr) w2 U := HK.out.trans kU (fun _ _ e => e)
      have sO : Bz.Src U (some ⟨go, 0, none⟩) (Bz.dig 2 V T) := S2.out.kp (kpZ k2U) (fun b off e => by cases e; exact HGO.out)
      obtain ⟨c1, c2', c3⟩ := src_cut sO (p := q) (t := t) (by omega) A hA
      have sZ : Src .i64 U ao zs := fun hp => HSX.out.kp kX (fun b off e h => by have := HLO.out hp b off e; have := HGR.out.1; omega) hp
      exact rtk_any U ao (some ⟨go, A, none⟩) oc (c2 - q) t zs _ (bt V q) sZ c1 c2' (by omega) c3 (fun k => by unfold bt; omega) HWI.out hzl
    have HUQ : Hid (∀ {s n e s' n' e' : Int}, Dec zs (bt V q) t s n e → Dec zs (bt V q) t s' n' e' → s = s' ∧ n = n' ∧ e = e') := fun h h' => Dec.uniq HWI.out (by omega) h h'
    go_wp2_with fail
    refine HTK.out.mono ?_
    rintro e w4 ⟨sy, er, n4, rfl, d4, l4, r4, k4⟩
    have D4 := hid d4
    have R4 := hid r4
    have K4 := hid k4
    have K4X : Hid (Kp (fun i => i = gr) X w4) := HKX.out.trans k4 (fun _ _ e => e)
    have HPR : Hid (∀ U, Kp (fun _ => False) w4 U → U.cell? ⟨Q, 0, none⟩ = some (.slice ao zs.length oc)) := fun U k => (HTC.out U ((K4X.out.trans k (fun _ _ h => h.elim)).mono (fun i _ e => by have := HGR.out.1; omega))).1
    have KD : Hid (Kp (fun _ => False) w4 w4.drew) := (Kp.refl _ _).drew
    have cc0 := HPR.out w4 (Kp.refl _ _)
    have cd0 := HPR.out w4.drew KD.out
    have HAT : Hid (∀ U, Kp (fun _ => False) w4 U → Calls Try.prog 42 #[.pointer (some ⟨gr, 0, none⟩)] U fun e w' => e = .returned (.int .i64 ((q + n4 : Nat) : Int)) ∧ Kp (fun _ => False) U w') := fun U k => (Bz.at_k gr (some ⟨G, 0, none⟩) B.length B (q + n4) U (R4.out.ok (kpZ k))).mono (fun e w' ⟨h1, h2⟩ => ⟨h1, kpB h2⟩)
    clear d4 r4 k4 HTK HR
    by_cases hq15 : (q : Int) + 15 ≤ (T : Int)
    · have hmn : min ((q : Int) + 15) (T : Int) = (q : Int) + 15 := by omega
      have hmn2 : ¬ (T : Int) < (q : Int) + 15 := by omega
      have hte : t = 15 := by omega
      have HR6 := hid (HRT.out w4.drew q (.inr (K4.out.drew)) (fun _ => rfl))
      rw [hte] at HR6
      have HTE := hid hte
      clear hte
      have hcq : ¬ c2 = q := by omega
      have hs1 : (q : Int) + 15 ≤ (c2 : Int) := by omega
      have hs1n : q + 15 ≤ c2 := by omega
      have hs0 : (0 : Int) ≤ (q : Int) := by omega
      have hs3 : (0 : Int) ≤ (q : Int) + 15 := by omega
      have hs2 : (q : Int) ≤ (q : Int) + 15 := by omega
      clear HRT
      go_wp2_with fail
      change (Code.region 11 o38r11 true).wp _ _ _ _
      refine wp_region_plan (fun U => Kp (fun _ => False) w4 U) [] c38r11 p38r11_0 hmix b38r11 d38r11 (fun _ _ d _ _ h => by cases d <;> exact h) ?_
      refine plan_take (o := q38r11_0) (r := p38r11_1) ?va0 KD.out (by rfl) ?hya0 ?resta0
      case hya0 => (intro w hSw; (try dsimp only at hSw); simp only [q38r11_0]; go_simp; try with_reducible rfl)
      try simp only [q38r11_0, Act.put, List.setIfInBounds_toArray, List.set_cons_zero, List.set_cons_succ]
      refine plan_take (o := q38r11_1) (r := p38r11_2) (.slice ao zs.length oc) KD.out (by rfl) ?hya1 ?resta1
      case hya1 => (intro w hSw; (try dsimp only at hSw); have y1 := HPR.out _ hSw; simp only [q38r11_1]; go_simp; try with_reducible rfl)
      try simp only [q38r11_1, Act.put, List.setIfInBounds_toArray, List.set_cons_zero, List.set_cons_succ]
      refine plan_take (o := q38r11_2) (r := p38r11_3) ?va2 KD.out (by rfl) ?hya2 ?resta2
      case hya2 => (intro w hSw; (try dsimp only at hSw); simp only [q38r11_2]; go_simp; try with_reducible rfl)
      try simp only [q38r11_2, Act.put, List.setIfInBounds_toArray, List.set_cons_zero, List.set_cons_succ]
      refine plan_take (o := q38r11_3) (r := p38r11_4) ?va3 KD.out (by rfl) ?hya3 ?resta3
      case hya3 => (intro w hSw; (try dsimp only at hSw); simp only [q38r11_3]; go_simp; try with_reducible rfl)
      try simp only [q38r11_3, Act.put, List.setIfInBounds_toArray, List.set_cons_zero, List.set_cons_succ]
      refine plan_take (o := q38r11_4) (r := p38r11_5) ?va4 KD.out (by rfl) ?hya4 ?resta4
      case hya4 => (intro w hSw; (try dsimp only at hSw); simp only [q38r11_4]; go_simp; try with_reducible rfl)
      try simp only [q38r11_4, Act.put, List.setIfInBounds_toArray, List.set_cons_zero, List.set_cons_succ]
      refine plan_take (o := q38r11_5) (r := p38r11_6) ?va5 KD.out (by rfl) ?hya5 ?resta5
      case hya5 => (intro w hSw; (try dsimp only at hSw); simp only [q38r11_5]; go_simp; try with_reducible rfl)
      try simp only [q38r11_5, Act.put, List.setIfInBounds_toArray, List.set_cons_zero, List.set_cons_succ]
      refine plan_take (o := q38r11_6) (r := p38r11_7) ?va6 KD.out (by rfl) ?hya6 ?resta6
      case hya6 => (intro w hSw; (try dsimp only at hSw); simp only [q38r11_6]; go_simp; try with_reducible rfl)
      try simp only [q38r11_6, Act.put, List.setIfInBounds_toArray, List.set_cons_zero, List.set_cons_succ]
      refine plan_take (o := q38r11_7) (r := p38r11_8) ?va7 KD.out (by rfl) ?hya7 ?resta7
      case hya7 => (intro w hSw; (try dsimp only at hSw); simp only [q38r11_7]; go_simp; try with_reducible rfl)
      try simp only [q38r11_7, Act.put, List.setIfInBounds_toArray, List.set_cons_zero, List.set_cons_succ]
      refine plan_take (o := q38r11_8) (r := p38r11_9) (.int .i64 ((q : Int) + 15)) KD.out (by rfl) ?hya8 ?resta8
      case hya8 => (intro w hSw; simp only [q38r11_8]; go_simp; (try with_reducible rfl); try omega)
      try simp only [q38r11_8, Act.put, List.setIfInBounds_toArray, List.set_cons_zero, List.set_cons_succ]
      refine plan_take (o := q38r11_9) (r := p38r11_10) (.slice (some ⟨go, q, none⟩) 15 (c2 - q)) KD.out (by rfl) ?hya9 ?resta9
      case hya9 => (intro w hSw; simp only [q38r11_9]; go_simp; (try with_reducible rfl); try omega)
      try simp only [q38r11_9, Act.put, List.setIfInBounds_toArray, List.set_cons_zero, List.set_cons_succ]
      refine plan_act (o := q38r11_10) (r := p38r11_11) (fun K hK => ?_)
      simp only [q38r11_10]
      refine ite_pos2 (by rfl) ?_
      go_simp
      refine HR6.out.mono ?_
      rintro e w5 ⟨s5, n5, e5, rfl, d5, b5⟩
      rw [← HTE.out] at d5
      obtain ⟨h1, h2, h3⟩ := HUQ.out D4.out d5
      subst h1 h2 h3
      have K5 : Hid (Kp (fun _ => False) w4 w5) := KD.out.trans (Kp.of_below (F := fun _ => False) b5) (fun _ _ h => h)
      have HA5 := hid (HAT.out w5 K5.out)
      clear b5 d5 HR6
      go_wp2_with fail
      refine hK.out _ _ (fun _ => K5.out) ?_
      clear hK K
      try simp only [q38r11_10, Act.put, List.setIfInBounds_toArray, List.set_cons_zero, List.set_cons_succ]
      refine plan_take (o := q38r11_11) (r := p38r11_12) ?va11 K5.out (by rfl) ?hya11 ?resta11
      case hya11 => (intro w hSw; (try dsimp only at hSw); simp only [q38r11_11]; go_simp; try with_reducible rfl)
      try simp only [q38r11_11, Act.put, List.setIfInBounds_toArray, List.set_cons_zero, List.set_cons_succ]
      refine plan_take (o := q38r11_12) (r := p38r11_13) ?va12 K5.out (by rfl) ?hya12 ?resta12
      case hya12 => (intro w hSw; (try dsimp only at hSw); simp only [q38r11_12]; go_simp; try with_reducible rfl)
      try simp only [q38r11_12, Act.put, List.setIfInBounds_toArray, List.set_cons_zero, List.set_cons_succ]
      refine plan_take (o := q38r11_13) (r := p38r11_14) ?va13 K5.out (by rfl) ?hya13 ?resta13
      case hya13 => (intro w hSw; (try dsimp only at hSw); simp only [q38r11_13]; go_simp; try with_reducible rfl)
      try simp only [q38r11_13, Act.put, List.setIfInBounds_toArray, List.set_cons_zero, List.set_cons_succ]
      refine plan_take (o := q38r11_14) (r := p38r11_15) ?va14 K5.out (by rfl) ?hya14 ?resta14
      case hya14 => (intro w hSw; (try dsimp only at hSw); simp only [q38r11_14]; go_simp; try with_reducible rfl)
      try simp only [q38r11_14, Act.put, List.setIfInBounds_toArray, List.set_cons_zero, List.set_cons_succ]
      refine plan_take (o := q38r11_15) (r := p38r11_16) ?va15 K5.out (by rfl) ?hya15 ?resta15
      case hya15 => (intro w hSw; (try dsimp only at hSw); simp only [q38r11_15]; go_simp; try with_reducible rfl)
      try simp only [q38r11_15, Act.put, List.setIfInBounds_toArray, List.set_cons_zero, List.set_cons_succ]
      refine plan_take (o := q38r11_16) (r := p38r11_17) ?va16 K5.out (by rfl) ?hya16 ?resta16
      case hya16 => (intro w hSw; (try dsimp only at hSw); simp only [q38r11_16]; go_simp; try with_reducible rfl)
      try simp only [q38r11_16, Act.put, List.setIfInBounds_toArray, List.set_cons_zero, List.set_cons_succ]
      refine plan_take (o := q38r11_17) (r := p38r11_18) ?va17 K5.out (by rfl) ?hya17 ?resta17
      case hya17 => (intro w hSw; (try dsimp only at hSw); simp only [q38r11_17]; go_simp; try with_reducible rfl)
      try simp only [q38r11_17, Act.put, List.setIfInBounds_toArray, List.set_cons_zero, List.set_cons_succ]
      refine plan_done ?_
      have hsum : IntKind.i64.wrap ((q : Int) + (n4 : Int)) = ((q + n4 : Nat) : Int) := by rw [IntKind.wrap_i64]; omega
      have hsum2 : (q : Int) + (n4 : Int) = ((q + n4 : Nat) : Int) := by omega
      go_wp2_with (first | (go_at_call 13; refine (HNU.out _ _).mono ?_; rintro e1 w9 ⟨rfl, rfl⟩))
      refine HA5.out.mono ?_
      rintro e w6 ⟨rfl, k6⟩
      have K6 : Hid (Kp (fun _ => False) w4 w6) := K5.out.trans k6 (fun _ _ h => h)
      clear k6 HA5 cc0 cd0
      rcases D4.out with ⟨kk, m, _, h2, h3, _⟩ | ⟨_, _, h3, _⟩ | ⟨_, _, h3, _⟩
      · subst h3
        have hn4 : 1 ≤ n4 := by omega
        have R6 := hid (R4.out.ok (kpZ K6.out))
        have K26 : Hid (Kp (fun i => i = gr) w2 w6) := (HK.out.trans K4.out (fun _ _ e => e)).trans K6.out (fun _ _ h => h.elim)
        obtain ⟨qn, hqn⟩ : ∃ qn, qn = q + n4 := ⟨_, rfl⟩
        rw [← hqn] at R6 hsum hsum2 ⊢
        have HQN := hid hqn
        clear hqn
        go_wp2_with fail
        go_roundw
        case rel => exact ⟨qn, by go_num, by have := HQN.out; have := HTT.out; omega, R6, K26⟩
        case measure => simp [intOf]; have := HQN.out; omega
      · subst h3
        have KF : Hid (Kp (fun _ => False) w w6) := (HKA.out.trans ((K4X.out.trans K6.out (fun _ _ h => h.elim)).mono (fun i _ e => e)) (fun i hi e => by have := HGR.out.1; have := HXS.out; omega))
        go_wp2_with fail
        go_ret
        exact ⟨rfl, KF.out⟩
      · subst h3
        have KF : Hid (Kp (fun _ => False) w w6) := (HKA.out.trans ((K4X.out.trans K6.out (fun _ _ h => h.elim)).mono (fun i _ e => e)) (fun i hi e => by have := HGR.out.1; have := HXS.out; omega))
        go_wp2_with fail
        go_ret
        exact ⟨rfl, KF.out⟩
    · have hmn : min ((q : Int) + 15) (T : Int) = (T : Int) := by omega
      have hmn2 : (T : Int) < (q : Int) + 15 := by omega
      have hte : t = T - q := by omega
      have hs1 : (T : Int) ≤ (c2 : Int) := by omega
      have hs2 : (q : Int) ≤ (T : Int) := by omega
      have hs0 : (0 : Int) ≤ (q : Int) := by omega
      by_cases hcq : c2 = q
      · have hTq : T = q := by omega
        have hte0 : t = 0 := by omega
        have HR6 := hid (HRT.out w4.drew 0 (.inr (K4.out.drew)) (fun h => by omega))
        rw [hte0, show c2 - q = 0 by omega] at HR6
        have HTE := hid hte0
        clear hte hte0 hmn
        have HTQ := hid hTq
        clear hTq
        clear HRT
        go_wp2_with fail
        change (Code.region 11 o38r11 true).wp _ _ _ _
        refine wp_region_plan (fun U => Kp (fun _ => False) w4 U) [] c38r11 p38r11_0 hmix b38r11 d38r11 (fun _ _ d _ _ h => by cases d <;> exact h) ?_
        refine plan_take (o := q38r11_0) (r := p38r11_1) ?vb0 KD.out (by rfl) ?hyb0 ?restb0
        case hyb0 => (intro w hSw; (try dsimp only at hSw); simp only [q38r11_0]; go_simp; try with_reducible rfl)
        try simp only [q38r11_0, Act.put, List.setIfInBounds_toArray, List.set_cons_zero, List.set_cons_succ]
        refine plan_take (o := q38r11_1) (r := p38r11_2) (.slice ao zs.length oc) KD.out (by rfl) ?hyb1 ?restb1
        case hyb1 => (intro w hSw; (try dsimp only at hSw); have y1 := HPR.out _ hSw; simp only [q38r11_1]; go_simp; try with_reducible rfl)
        try simp only [q38r11_1, Act.put, List.setIfInBounds_toArray, List.set_cons_zero, List.set_cons_succ]
        refine plan_take (o := q38r11_2) (r := p38r11_3) ?vb2 KD.out (by rfl) ?hyb2 ?restb2
        case hyb2 => (intro w hSw; (try dsimp only at hSw); simp only [q38r11_2]; go_simp; try with_reducible rfl)
        try simp only [q38r11_2, Act.put, List.setIfInBounds_toArray, List.set_cons_zero, List.set_cons_succ]
        refine plan_take (o := q38r11_3) (r := p38r11_4) ?vb3 KD.out (by rfl) ?hyb3 ?restb3
        case hyb3 => (intro w hSw; (try dsimp only at hSw); simp only [q38r11_3]; go_simp; try with_reducible rfl)
        try simp only [q38r11_3, Act.put, List.setIfInBounds_toArray, List.set_cons_zero, List.set_cons_succ]
        refine plan_take (o := q38r11_4) (r := p38r11_5) ?vb4 KD.out (by rfl) ?hyb4 ?restb4
        case hyb4 => (intro w hSw; (try dsimp only at hSw); simp only [q38r11_4]; go_simp; try with_reducible rfl)
        try simp only [q38r11_4, Act.put, List.setIfInBounds_toArray, List.set_cons_zero, List.set_cons_succ]
        refine plan_take (o := q38r11_5) (r := p38r11_6) ?vb5 KD.out (by rfl) ?hyb5 ?restb5
        case hyb5 => (intro w hSw; (try dsimp only at hSw); simp only [q38r11_5]; go_simp; try with_reducible rfl)
        try simp only [q38r11_5, Act.put, List.setIfInBounds_toArray, List.set_cons_zero, List.set_cons_succ]
        refine plan_take (o := q38r11_6) (r := p38r11_7) ?vb6 KD.out (by rfl) ?hyb6 ?restb6
        case hyb6 => (intro w hSw; (try dsimp only at hSw); simp only [q38r11_6]; go_simp; try with_reducible rfl)
        try simp only [q38r11_6, Act.put, List.setIfInBounds_toArray, List.set_cons_zero, List.set_cons_succ]
        refine plan_take (o := q38r11_7) (r := p38r11_8) ?vb7 KD.out (by rfl) ?hyb7 ?restb7
        case hyb7 => (intro w hSw; (try dsimp only at hSw); simp only [q38r11_7]; go_simp; try with_reducible rfl)
        try simp only [q38r11_7, Act.put, List.setIfInBounds_toArray, List.set_cons_zero, List.set_cons_succ]
        refine plan_take (o := q38r11_8) (r := p38r11_9) (.int .i64 ((T : Int))) KD.out (by rfl) ?hyb8 ?restb8
        case hyb8 => (intro w hSw; simp only [q38r11_8]; go_simp; (try with_reducible rfl); try omega)
        try simp only [q38r11_8, Act.put, List.setIfInBounds_toArray, List.set_cons_zero, List.set_cons_succ]
        refine plan_take (o := q38r11_9) (r := p38r11_10) (.slice (some ⟨go, 0, none⟩) 0 0) KD.out (by rfl) ?hyb9 ?restb9
        case hyb9 => (intro w hSw; have hTq := HTQ.out; simp only [q38r11_9]; go_simp; (try with_reducible rfl); try omega)
        try simp only [q38r11_9, Act.put, List.setIfInBounds_toArray, List.set_cons_zero, List.set_cons_succ]
        refine plan_act (o := q38r11_10) (r := p38r11_11) (fun K hK => ?_)
        simp only [q38r11_10]
        refine ite_pos2 (by rfl) ?_
        go_simp
        refine HR6.out.mono ?_
        rintro e w5 ⟨s5, n5, e5, rfl, d5, b5⟩
        rw [← HTE.out] at d5
        obtain ⟨h1, h2, h3⟩ := HUQ.out D4.out d5
        subst h1 h2 h3
        have K5 : Hid (Kp (fun _ => False) w4 w5) := KD.out.trans (Kp.of_below (F := fun _ => False) b5) (fun _ _ h => h)
        have HA5 := hid (HAT.out w5 K5.out)
        clear b5 d5 HR6
        go_wp2_with fail
        refine hK.out _ _ (fun _ => K5.out) ?_
        clear hK K
        try simp only [q38r11_10, Act.put, List.setIfInBounds_toArray, List.set_cons_zero, List.set_cons_succ]
        refine plan_take (o := q38r11_11) (r := p38r11_12) ?vb11 K5.out (by rfl) ?hyb11 ?restb11
        case hyb11 => (intro w hSw; (try dsimp only at hSw); simp only [q38r11_11]; go_simp; try with_reducible rfl)
        try simp only [q38r11_11, Act.put, List.setIfInBounds_toArray, List.set_cons_zero, List.set_cons_succ]
        refine plan_take (o := q38r11_12) (r := p38r11_13) ?vb12 K5.out (by rfl) ?hyb12 ?restb12
        case hyb12 => (intro w hSw; (try dsimp only at hSw); simp only [q38r11_12]; go_simp; try with_reducible rfl)
        try simp only [q38r11_12, Act.put, List.setIfInBounds_toArray, List.set_cons_zero, List.set_cons_succ]
        refine plan_take (o := q38r11_13) (r := p38r11_14) ?vb13 K5.out (by rfl) ?hyb13 ?restb13
        case hyb13 => (intro w hSw; (try dsimp only at hSw); simp only [q38r11_13]; go_simp; try with_reducible rfl)
        try simp only [q38r11_13, Act.put, List.setIfInBounds_toArray, List.set_cons_zero, List.set_cons_succ]
        refine plan_take (o := q38r11_14) (r := p38r11_15) ?vb14 K5.out (by rfl) ?hyb14 ?restb14
        case hyb14 => (intro w hSw; (try dsimp only at hSw); simp only [q38r11_14]; go_simp; try with_reducible rfl)
        try simp only [q38r11_14, Act.put, List.setIfInBounds_toArray, List.set_cons_zero, List.set_cons_succ]
        refine plan_take (o := q38r11_15) (r := p38r11_16) ?vb15 K5.out (by rfl) ?hyb15 ?restb15
        case hyb15 => (intro w hSw; (try dsimp only at hSw); simp only [q38r11_15]; go_simp; try with_reducible rfl)
        try simp only [q38r11_15, Act.put, List.setIfInBounds_toArray, List.set_cons_zero, List.set_cons_succ]
        refine plan_take (o := q38r11_16) (r := p38r11_17) ?vb16 K5.out (by rfl) ?hyb16 ?restb16
        case hyb16 => (intro w hSw; (try dsimp only at hSw); simp only [q38r11_16]; go_simp; try with_reducible rfl)
        try simp only [q38r11_16, Act.put, List.setIfInBounds_toArray, List.set_cons_zero, List.set_cons_succ]
        refine plan_take (o := q38r11_17) (r := p38r11_18) ?vb17 K5.out (by rfl) ?hyb17 ?restb17
        case hyb17 => (intro w hSw; (try dsimp only at hSw); simp only [q38r11_17]; go_simp; try with_reducible rfl)
        try simp only [q38r11_17, Act.put, List.setIfInBounds_toArray, List.set_cons_zero, List.set_cons_succ]
        refine plan_done ?_
        have hsum : IntKind.i64.wrap ((q : Int) + (n4 : Int)) = ((q + n4 : Nat) : Int) := by rw [IntKind.wrap_i64]; omega
        have hsum2 : (q : Int) + (n4 : Int) = ((q + n4 : Nat) : Int) := by omega
        go_wp2_with (first | (go_at_call 13; refine (HNU.out _ _).mono ?_; rintro e1 w9 ⟨rfl, rfl⟩))
        refine HA5.out.mono ?_
        rintro e w6 ⟨rfl, k6⟩
        have K6 : Hid (Kp (fun _ => False) w4 w6) := K5.out.trans k6 (fun _ _ h => h)
        clear k6 HA5 cc0 cd0
        rcases D4.out with ⟨kk, m, _, h2, h3, h4, _⟩ | ⟨_, _, h3, _⟩ | ⟨_, _, h3, _⟩
        · subst h3
          exfalso
          have h9 := HTE.out
          omega
        · subst h3
          have KF : Hid (Kp (fun _ => False) w w6) := (HKA.out.trans ((K4X.out.trans K6.out (fun _ _ h => h.elim)).mono (fun i _ e => e)) (fun i hi e => by have := HGR.out.1; have := HXS.out; omega))
          go_wp2_with fail
          go_ret
          exact ⟨rfl, KF.out⟩
        · subst h3
          have KF : Hid (Kp (fun _ => False) w w6) := (HKA.out.trans ((K4X.out.trans K6.out (fun _ _ h => h.elim)).mono (fun i _ e => e)) (fun i hi e => by have := HGR.out.1; have := HXS.out; omega))
          go_wp2_with fail
          go_ret
          exact ⟨rfl, KF.out⟩
      · have HR6 := hid (HRT.out w4.drew q (.inr (K4.out.drew)) (fun _ => rfl))
        rw [hte] at HR6
        have HTE := hid hte
        clear hte hmn
        clear HRT
        go_wp2_with fail
        change (Code.region 11 o38r11 true).wp _ _ _ _
        refine wp_region_plan (fun U => Kp (fun _ => False) w4 U) [] c38r11 p38r11_0 hmix b38r11 d38r11 (fun _ _ d _ _ h => by cases d <;> exact h) ?_
        refine plan_take (o := q38r11_0) (r := p38r11_1) ?vc0 KD.out (by rfl) ?hyc0 ?restc0
        case hyc0 => (intro w hSw; (try dsimp only at hSw); simp only [q38r11_0]; go_simp; try with_reducible rfl)
        try simp only [q38r11_0, Act.put, List.setIfInBounds_toArray, List.set_cons_zero, List.set_cons_succ]
        refine plan_take (o := q38r11_1) (r := p38r11_2) (.slice ao zs.length oc) KD.out (by rfl) ?hyc1 ?restc1
        case hyc1 => (intro w hSw; (try dsimp only at hSw); have y1 := HPR.out _ hSw; simp only [q38r11_1]; go_simp; try with_reducible rfl)
        try simp only [q38r11_1, Act.put, List.setIfInBounds_toArray, List.set_cons_zero, List.set_cons_succ]
        refine plan_take (o := q38r11_2) (r := p38r11_3) ?vc2 KD.out (by rfl) ?hyc2 ?restc2
        case hyc2 => (intro w hSw; (try dsimp only at hSw); simp only [q38r11_2]; go_simp; try with_reducible rfl)
        try simp only [q38r11_2, Act.put, List.setIfInBounds_toArray, List.set_cons_zero, List.set_cons_succ]
        refine plan_take (o := q38r11_3) (r := p38r11_4) ?vc3 KD.out (by rfl) ?hyc3 ?restc3
        case hyc3 => (intro w hSw; (try dsimp only at hSw); simp only [q38r11_3]; go_simp; try with_reducible rfl)
        try simp only [q38r11_3, Act.put, List.setIfInBounds_toArray, List.set_cons_zero, List.set_cons_succ]
        refine plan_take (o := q38r11_4) (r := p38r11_5) ?vc4 KD.out (by rfl) ?hyc4 ?restc4
        case hyc4 => (intro w hSw; (try dsimp only at hSw); simp only [q38r11_4]; go_simp; try with_reducible rfl)
        try simp only [q38r11_4, Act.put, List.setIfInBounds_toArray, List.set_cons_zero, List.set_cons_succ]
        refine plan_take (o := q38r11_5) (r := p38r11_6) ?vc5 KD.out (by rfl) ?hyc5 ?restc5
        case hyc5 => (intro w hSw; (try dsimp only at hSw); simp only [q38r11_5]; go_simp; try with_reducible rfl)
        try simp only [q38r11_5, Act.put, List.setIfInBounds_toArray, List.set_cons_zero, List.set_cons_succ]
        refine plan_take (o := q38r11_6) (r := p38r11_7) ?vc6 KD.out (by rfl) ?hyc6 ?restc6
        case hyc6 => (intro w hSw; (try dsimp only at hSw); simp only [q38r11_6]; go_simp; try with_reducible rfl)
        try simp only [q38r11_6, Act.put, List.setIfInBounds_toArray, List.set_cons_zero, List.set_cons_succ]
        refine plan_take (o := q38r11_7) (r := p38r11_8) ?vc7 KD.out (by rfl) ?hyc7 ?restc7
        case hyc7 => (intro w hSw; (try dsimp only at hSw); simp only [q38r11_7]; go_simp; try with_reducible rfl)
        try simp only [q38r11_7, Act.put, List.setIfInBounds_toArray, List.set_cons_zero, List.set_cons_succ]
        refine plan_take (o := q38r11_8) (r := p38r11_9) (.int .i64 ((T : Int))) KD.out (by rfl) ?hyc8 ?restc8
        case hyc8 => (intro w hSw; simp only [q38r11_8]; go_simp; (try with_reducible rfl); try omega)
        try simp only [q38r11_8, Act.put, List.setIfInBounds_toArray, List.set_cons_zero, List.set_cons_succ]
        refine plan_take (o := q38r11_9) (r := p38r11_10) (.slice (some ⟨go, q, none⟩) (T - q) (c2 - q)) KD.out (by rfl) ?hyc9 ?restc9
        case hyc9 => (intro w hSw; simp only [q38r11_9]; go_simp; (try with_reducible rfl); try omega)
        try simp only [q38r11_9, Act.put, List.setIfInBounds_toArray, List.set_cons_zero, List.set_cons_succ]
        refine plan_act (o := q38r11_10) (r := p38r11_11) (fun K hK => ?_)
        simp only [q38r11_10]
        refine ite_pos2 (by rfl) ?_
        go_simp
        refine HR6.out.mono ?_
        rintro e w5 ⟨s5, n5, e5, rfl, d5, b5⟩
        rw [← HTE.out] at d5
        obtain ⟨h1, h2, h3⟩ := HUQ.out D4.out d5
        subst h1 h2 h3
        have K5 : Hid (Kp (fun _ => False) w4 w5) := KD.out.trans (Kp.of_below (F := fun _ => False) b5) (fun _ _ h => h)
        have HA5 := hid (HAT.out w5 K5.out)
        clear b5 d5 HR6
        go_wp2_with fail
        refine hK.out _ _ (fun _ => K5.out) ?_
        clear hK K
        try simp only [q38r11_10, Act.put, List.setIfInBounds_toArray, List.set_cons_zero, List.set_cons_succ]
        refine plan_take (o := q38r11_11) (r := p38r11_12) ?vc11 K5.out (by rfl) ?hyc11 ?restc11
        case hyc11 => (intro w hSw; (try dsimp only at hSw); simp only [q38r11_11]; go_simp; try with_reducible rfl)
        try simp only [q38r11_11, Act.put, List.setIfInBounds_toArray, List.set_cons_zero, List.set_cons_succ]
        refine plan_take (o := q38r11_12) (r := p38r11_13) ?vc12 K5.out (by rfl) ?hyc12 ?restc12
        case hyc12 => (intro w hSw; (try dsimp only at hSw); simp only [q38r11_12]; go_simp; try with_reducible rfl)
        try simp only [q38r11_12, Act.put, List.setIfInBounds_toArray, List.set_cons_zero, List.set_cons_succ]
        refine plan_take (o := q38r11_13) (r := p38r11_14) ?vc13 K5.out (by rfl) ?hyc13 ?restc13
        case hyc13 => (intro w hSw; (try dsimp only at hSw); simp only [q38r11_13]; go_simp; try with_reducible rfl)
        try simp only [q38r11_13, Act.put, List.setIfInBounds_toArray, List.set_cons_zero, List.set_cons_succ]
        refine plan_take (o := q38r11_14) (r := p38r11_15) ?vc14 K5.out (by rfl) ?hyc14 ?restc14
        case hyc14 => (intro w hSw; (try dsimp only at hSw); simp only [q38r11_14]; go_simp; try with_reducible rfl)
        try simp only [q38r11_14, Act.put, List.setIfInBounds_toArray, List.set_cons_zero, List.set_cons_succ]
        refine plan_take (o := q38r11_15) (r := p38r11_16) ?vc15 K5.out (by rfl) ?hyc15 ?restc15
        case hyc15 => (intro w hSw; (try dsimp only at hSw); simp only [q38r11_15]; go_simp; try with_reducible rfl)
        try simp only [q38r11_15, Act.put, List.setIfInBounds_toArray, List.set_cons_zero, List.set_cons_succ]
        refine plan_take (o := q38r11_16) (r := p38r11_17) ?vc16 K5.out (by rfl) ?hyc16 ?restc16
        case hyc16 => (intro w hSw; (try dsimp only at hSw); simp only [q38r11_16]; go_simp; try with_reducible rfl)
        try simp only [q38r11_16, Act.put, List.setIfInBounds_toArray, List.set_cons_zero, List.set_cons_succ]
        refine plan_take (o := q38r11_17) (r := p38r11_18) ?vc17 K5.out (by rfl) ?hyc17 ?restc17
        case hyc17 => (intro w hSw; (try dsimp only at hSw); simp only [q38r11_17]; go_simp; try with_reducible rfl)
        try simp only [q38r11_17, Act.put, List.setIfInBounds_toArray, List.set_cons_zero, List.set_cons_succ]
        refine plan_done ?_
        have hsum : IntKind.i64.wrap ((q : Int) + (n4 : Int)) = ((q + n4 : Nat) : Int) := by rw [IntKind.wrap_i64]; omega
        have hsum2 : (q : Int) + (n4 : Int) = ((q + n4 : Nat) : Int) := by omega
        go_wp2_with (first | (go_at_call 13; refine (HNU.out _ _).mono ?_; rintro e1 w9 ⟨rfl, rfl⟩))
        refine HA5.out.mono ?_
        rintro e w6 ⟨rfl, k6⟩
        have K6 : Hid (Kp (fun _ => False) w4 w6) := K5.out.trans k6 (fun _ _ h => h)
        clear k6 HA5 cc0 cd0
        rcases D4.out with ⟨kk, m, _, h2, h3, _⟩ | ⟨_, _, h3, _⟩ | ⟨_, _, h3, _⟩
        · subst h3
          have hn4 : 1 ≤ n4 := by omega
          have R6 := hid (R4.out.ok (kpZ K6.out))
          have K26 : Hid (Kp (fun i => i = gr) w2 w6) := (HK.out.trans K4.out (fun _ _ e => e)).trans K6.out (fun _ _ h => h.elim)
          obtain ⟨qn, hqn⟩ : ∃ qn, qn = q + n4 := ⟨_, rfl⟩
          rw [← hqn] at R6 hsum hsum2 ⊢
          have HQN := hid hqn
          clear hqn
          go_wp2_with fail
          go_roundw
          case rel => exact ⟨qn, by go_num, by have := HQN.out; have := HTT.out; omega, R6, K26⟩
          case measure => simp [intOf]; have := HQN.out; omega
        · subst h3
          have KF : Hid (Kp (fun _ => False) w w6) := (HKA.out.trans ((K4X.out.trans K6.out (fun _ _ h => h.elim)).mono (fun i _ e => e)) (fun i hi e => by have := HGR.out.1; have := HXS.out; omega))
          go_wp2_with fail
          go_ret
          exact ⟨rfl, KF.out⟩
        · subst h3
          have KF : Hid (Kp (fun _ => False) w w6) := (HKA.out.trans ((K4X.out.trans K6.out (fun _ _ h => h.elim)).mono (fun i _ e => e)) (fun i hi e => by have := HGR.out.1; have := HXS.out; omega))
          go_wp2_with fail
          go_ret
          exact ⟨rfl, KF.out⟩
set_option maxRecDepth 100000 in
set_option maxHeartbeats 8000000 in
theorem takes_high (w : World) (g : Nat) (la ca sa ao so bo : Option Addr) (lc cc sc oc tc bc tn : Nat) (zs S B : List Int) (skip leave : Int) (hsk : ((8 * B.length : Nat) : Int) < skip) (h : Cd w g la ca sa lc cc sc zs S) (hlt : ∀ i, Cdf g la ca sa i → i < w.heap.size) (hs : Src .i64 w ao zs) (hB : Src .u8 w bo B) (hBl : B.length ≤ 400) (hBb : Bz.Byt B) :
    Calls Try.prog 38 #[.pointer (some ⟨g, 0, none⟩), .agg #[.slice ao zs.length oc, .slice so tn tc, .slice bo B.length bc, .int .i64 skip, .int .i64 leave]] w fun e w' => e = .returned (.bool true) ∧ Kp (fun _ => False) w w' := by
  obtain ⟨X, hX⟩ : ∃ X, X = w.alloc (.cells #[.slice ao zs.length oc, .slice so tn tc, .slice bo B.length bc, .int .i64 skip, .int .i64 leave] 52) := ⟨_, rfl⟩
  have ka : Kp (fun _ => False) w X := by rw [hX]; exact (Kp.refl _ _).alloc _
  have hXs : X.heap.size = w.heap.size + 1 := by rw [hX]; exact World.size_alloc _ _
  have HTC : Hid (∀ U, Kp (fun i => X.heap.size ≤ i) X U → U.cell? ⟨w.heap.size, 0, none⟩ = some (.slice ao zs.length oc) ∧ U.cell? ⟨w.heap.size, 2, none⟩ = some (.slice bo B.length bc) ∧ U.cell? ⟨w.heap.size, 3, none⟩ = some (.int .i64 skip)) := fun U k => by
    have h0 : X.heap[w.heap.size]? = some (.cells #[.slice ao zs.length oc, .slice so tn tc, .slice bo B.length bc, .int .i64 skip, .int .i64 leave] 52 (0, 0)) := by rw [hX]; exact heap_alloc_new w _
    have h1 := (k.block w.heap.size (by omega) (by omega)).trans h0
    exact ⟨by rw [cell_of_row U _ 0 _ 52 _ h1]; rfl, by rw [cell_of_row U _ 2 _ 52 _ h1]; rfl, by rw [cell_of_row U _ 3 _ 52 _ h1]; rfl⟩
  have HNR := hid (Bz.newr_any bo bc B X (by omega) hBb (hB.kp ka (fun _ _ _ h => h)))
  have HSX := hid (hs.kp ka (fun _ _ _ h => h))
  have HBX : Hid (Src .u8 X bo B) := hB.kp ka (fun _ _ _ h => h)
  have HCX := hid (h.ok ka)
  have HKA := hid ka
  have HLT : Hid (∀ i, Cdf g la ca sa i → i < X.heap.size) := fun i hi => by have := hlt i hi; omega
  have HLO : Hid (0 < zs.length → ∀ b off, ao = some ⟨b, off, none⟩ → b < X.heap.size) := fun hp b off e => by have := src_low hs hp b off e; omega
  have HBB := hid hBb
  have HNU := hid num_any
  have hzl : zs.length ≤ 320 := h.hl
  have HWI := hid h.hw
  have HXS := hid hXs
  obtain ⟨V, hV⟩ : ∃ V, V = Bz.und 256 B := ⟨_, rfl⟩
  obtain ⟨T, hT⟩ : ∃ T, T = 8 * B.length := ⟨_, rfl⟩
  have HVV := hid hV
  have HTT := hid hT
  have hT4 : T ≤ 3200 := by omega
  rw [← hT] at hsk
  clear h hlt hs hB hBb ka hXs hV
  go_enter Try.func38, Try.ntmps38
  go_wp2_with fail
  rw [← hX]
  clear hX
  obtain ⟨Q, hQ⟩ : ∃ Q, Q = w.heap.size := ⟨_, rfl⟩
  rw [← hQ] at HTC ⊢
  have z2 := (HTC.out X (Kp.refl _ _)).2.1
  clear hQ hT
  go_wp2_with fail
  refine HNR.out.mono ?_
  rintro e w1 ⟨gr, G, rfl, hgr, hG, r1, k1⟩
  have K1 := hid (kpB k1)
  have R1 := hid r1
  have HGR : Hid (X.heap.size ≤ gr ∧ X.heap.size ≤ G) := ⟨hgr, hG⟩
  have z2 := (HTC.out w1 (K1.out.mono (fun _ _ h => h.elim))).2.1
  have HOF := hid (Bz.rof_any bo bc B w1 (by omega) HBB.out (HBX.out.kp K1.out (fun _ _ _ h => h)))
  clear k1 r1 hgr hG HNR
  go_wp2_with fail
  refine HOF.out.mono ?_
  rintro e w2 ⟨go, c2, rfl, o2, b2⟩
  have hos := o2.src
  have K2 : Hid (Kp (fun _ => False) X w2) := K1.out.trans (Kp.of_below (F := fun _ => False) b2) (fun _ _ h => h)
  have R2 : Hid (Bz.Rd w2 gr (some ⟨G, 0, none⟩) B.length B 0) := R1.out.ok (Bz.Kp.of_below b2)
  have hgo : w1.heap.size ≤ go ∧ go < w2.heap.size := o2.lt go rfl
  have S2 : Hid (Bz.Src w2 (some ⟨go, 0, none⟩) (Bz.dig 2 V T)) := by rw [Hid, HVV.out, HTT.out]; exact hos.1
  have HGO : Hid (go ≠ gr) := fun e => by have := R1.out; obtain ⟨_, _, r⟩ := this; have := r.st; have := (Array.getElem?_eq_some_iff.1 this).1; omega
  have hcc : T ≤ c2 := by
    rcases o2 with ⟨e, _⟩ | ⟨g', cp, tl, e, _, _, h5, _⟩
    · cases e
    · simp only [Value.slice.injEq] at e
      have := e.2.2
      rw [List.length_append, Bz.dig_length] at h5
      have := HTT.out
      omega
  clear o2 b2 hos HOF R1 K1 hgo
  rw [← HTT.out]
  have hz3 := (HTC.out w2 (K2.out.mono (fun _ _ h => h.elim))).2.2
  have R3 := R2
  have K3 : Hid (Kp (fun i => i = gr) w2 w2) := Kp.refl _ _
  clear R2
  have hd0 : 0 ≤ skip := by omega
  have hd1 : ¬ skip ≤ (T : Int) := by omega
  have hd2 : decide (skip ≤ (T : Int)) = false := by simpa using hd1
  go_wp2_with fail
  go_loopw [7] (fun v7 wr => ∃ (q : Nat), v7 = .int .i64 (q : Int) ∧ q ≤ T ∧ Hid (Bz.Rd wr gr (some ⟨G, 0, none⟩) B.length B q) ∧ Hid (Kp (fun i => i = gr) w2 wr)) (fun v7 _ => T + 1 - (intOf v7).toNat)
  case atStart => exact ⟨0, rfl, Nat.zero_le _, R3, K3⟩
  case round =>
    clear R3 K3
    obtain ⟨q, rfl, hq, HR, HK⟩ := hrel
    have HKX : Hid (Kp (fun i => i = gr) X wr) := (K2.out.mono (fun _ _ h => h.elim)).trans HK.out (fun _ _ e => e)
    have HTK := hid (take_any wr g gr la ca sa (some ⟨G, 0, none⟩) lc cc sc B.length zs S B q (HCX.out.kpf HKX.out (fun i hi e => by have := HLT.out i hi; have := HGR.out.1; omega)) HR.out (fun i hi e => by have := HLT.out i hi; have := HGR.out.1; omega))
    rw [← HVV.out, ← HTT.out] at HTK
    obtain ⟨t, ht⟩ : ∃ t, t = min 15 (T - q) := ⟨_, rfl⟩
    have hw15 : IntKind.i64.wrap ((q : Int) + 15) = (q : Int) + 15 := by rw [IntKind.wrap_i64]; omega
    rw [← ht] at HTK
    have HT15 := hid ht
    have HRT : Hid (∀ U A, Kp (fun _ => False) wr U ∨ Kp (fun i => i = gr) wr U → (0 < t → A = q) → Calls Try.prog 66 #[.slice ao zs.length oc, .slice (some ⟨go, A, none⟩) t (c2 - q)] U fun e w' => ∃ s n er : Int, e = .returned (.tuple #[.int .i64 s, .int .i64 n, .int .i64 er]) ∧ Dec zs (bt V q) t s n er ∧ Below U.heap.size U w') := fun U A kk hA => by
      have kU : Kp (fun i => i = gr) wr U := kk.elim (fun k => k.mono (fun _ _ h => h.elim)) (fun k => k)
      have kX : Kp (fun i => i = gr) X U := HKX.out.trans kU (fun _ _ e => e)
      have k2U : Kp (fun i => i = gr) w2 U := HK.out.trans kU (fun _ _ e => e)
      have sO : Bz.Src U (some ⟨go, 0, none⟩) (Bz.dig 2 V T) := S2.out.kp (kpZ k2U) (fun b off e => by cases e; exact HGO.out)
      obtain ⟨c1, c2', c3⟩ := src_cut sO (p := q) (t := t) (by omega) A hA
      have sZ : Src .i64 U ao zs := fun hp => HSX.out.kp kX (fun b off e h => by have := HLO.out hp b off e; have := HGR.out.1; omega) hp
      exact rtk_any U ao (some ⟨go, A, none⟩) oc (c2 - q) t zs _ (bt V q) sZ c1 c2' (by omega) c3 (fun k => by unfold bt; omega) HWI.out hzl
    have HUQ : Hid (∀ {s n e s' n' e' : Int}, Dec zs (bt V q) t s n e → Dec zs (bt V q) t s' n' e' → s = s' ∧ n = n' ∧ e = e') := fun h h' => Dec.uniq HWI.out (by omega) h h'
    go_wp2_with fail
    refine HTK.out.mono ?_
    rintro e w4 ⟨sy, er, n4, rfl, d4, l4, r4, k4⟩
    have D4 := hid d4
    have R4 := hid r4
    have K4 := hid k4
    have K4X : Hid (Kp (fun i => i = gr) X w4) := HKX.out.trans k4 (fun _ _ e => e)
    have HPR : Hid (∀ U, Kp (fun _ => False) w4 U → U.cell? ⟨Q, 0, none⟩ = some (.slice ao zs.length oc)) := fun U k => (HTC.out U ((K4X.out.trans k (fun _ _ h => h.elim)).mono (fun i _ e => by have := HGR.out.1; omega))).1
    have KD : Hid (Kp (fun _ => False) w4 w4.drew) := (Kp.refl _ _).drew
    have cc0 := HPR.out w4 (Kp.refl _ _)
    have cd0 := HPR.out w4.drew KD.out
    have HAT : Hid (∀ U, Kp (fun _ => False) w4 U → Calls Try.prog 42 #[.pointer (some ⟨gr, 0, none⟩)] U fun e w' => e = .returned (.int .i64 ((q + n4 : Nat) : Int)) ∧ Kp (fun _ => False) U w') := fun U k => (Bz.at_k gr (some ⟨G, 0, none⟩) B.length B (q + n4) U (R4.out.ok (kpZ k))).mono (fun e w' ⟨h1, h2⟩ => ⟨h1, kpB h2⟩)
    clear d4 r4 k4 HTK HR
    by_cases hq15 : (q : Int) + 15 ≤ (T : Int)
    · have hmn : min ((q : Int) + 15) (T : Int) = (q : Int) + 15 := by omega
      have hmn2 : ¬ (T : Int) < (q : Int) + 15 := by omega
      have hte : t = 15 := by omega
      have HR6 := hid (HRT.out w4.drew q (.inr (K4.out.drew)) (fun _ => rfl))
      rw [hte] at HR6
      have HTE := hid hte
      clear hte
      have hcq : ¬ c2 = q := by omega
      have hs1 : (q : Int) + 15 ≤ (c2 : Int) := by omega
      have hs1n : q + 15 ≤ c2 := by omega
      have hs0 : (0 : Int) ≤ (q : Int) := by omega
      have hs3 : (0 : Int) ≤ (q : Int) + 15 := by omega
      have hs2 : (q : Int) ≤ (q : Int) + 15 := by omega
      clear HRT
      go_wp2_with fail
      change (Code.region 11 o38r11 true).wp _ _ _ _
      refine wp_region_plan (fun U => Kp (fun _ => False) w4 U) [] c38r11 p38r11_0 hmix b38r11 d38r11 (fun _ _ d _ _ h => by cases d <;> exact h) ?_
      refine plan_take (o := q38r11_0) (r := p38r11_1) ?va0 KD.out (by rfl) ?hya0 ?resta0
      case hya0 => (intro w hSw; (try dsimp only at hSw); simp only [q38r11_0]; go_simp; try with_reducible rfl)
      try simp only [q38r11_0, Act.put, List.setIfInBounds_toArray, List.set_cons_zero, List.set_cons_succ]
      refine plan_take (o := q38r11_1) (r := p38r11_2) (.slice ao zs.length oc) KD.out (by rfl) ?hya1 ?resta1
      case hya1 => (intro w hSw; (try dsimp only at hSw); have y1 := HPR.out _ hSw; simp only [q38r11_1]; go_simp; try with_reducible rfl)
      try simp only [q38r11_1, Act.put, List.setIfInBounds_toArray, List.set_cons_zero, List.set_cons_succ]
      refine plan_take (o := q38r11_2) (r := p38r11_3) ?va2 KD.out (by rfl) ?hya2 ?resta2
      case hya2 => (intro w hSw; (try dsimp only at hSw); simp only [q38r11_2]; go_simp; try with_reducible rfl)
      try simp only [q38r11_2, Act.put, List.setIfInBounds_toArray, List.set_cons_zero, List.set_cons_succ]
      refine plan_take (o := q38r11_3) (r := p38r11_4) ?va3 KD.out (by rfl) ?hya3 ?resta3
      case hya3 => (intro w hSw; (try dsimp only at hSw); simp only [q38r11_3]; go_simp; try with_reducible rfl)
      try simp only [q38r11_3, Act.put, List.setIfInBounds_toArray, List.set_cons_zero, List.set_cons_succ]
      refine plan_take (o := q38r11_4) (r := p38r11_5) ?va4 KD.out (by rfl) ?hya4 ?resta4
      case hya4 => (intro w hSw; (try dsimp only at hSw); simp only [q38r11_4]; go_simp; try with_reducible rfl)
      try simp only [q38r11_4, Act.put, List.setIfInBounds_toArray, List.set_cons_zero, List.set_cons_succ]
      refine plan_take (o := q38r11_5) (r := p38r11_6) ?va5 KD.out (by rfl) ?hya5 ?resta5
      case hya5 => (intro w hSw; (try dsimp only at hSw); simp only [q38r11_5]; go_simp; try with_reducible rfl)
      try simp only [q38r11_5, Act.put, List.setIfInBounds_toArray, List.set_cons_zero, List.set_cons_succ]
      refine plan_take (o := q38r11_6) (r := p38r11_7) ?va6 KD.out (by rfl) ?hya6 ?resta6
      case hya6 => (intro w hSw; (try dsimp only at hSw); simp only [q38r11_6]; go_simp; try with_reducible rfl)
      try simp only [q38r11_6, Act.put, List.setIfInBounds_toArray, List.set_cons_zero, List.set_cons_succ]
      refine plan_take (o := q38r11_7) (r := p38r11_8) ?va7 KD.out (by rfl) ?hya7 ?resta7
      case hya7 => (intro w hSw; (try dsimp only at hSw); simp only [q38r11_7]; go_simp; try with_reducible rfl)
      try simp only [q38r11_7, Act.put, List.setIfInBounds_toArray, List.set_cons_zero, List.set_cons_succ]
      refine plan_take (o := q38r11_8) (r := p38r11_9) (.int .i64 ((q : Int) + 15)) KD.out (by rfl) ?hya8 ?resta8
      case hya8 => (intro w hSw; simp only [q38r11_8]; go_simp; (try with_reducible rfl); try omega)
      try simp only [q38r11_8, Act.put, List.setIfInBounds_toArray, List.set_cons_zero, List.set_cons_succ]
      refine plan_take (o := q38r11_9) (r := p38r11_10) (.slice (some ⟨go, q, none⟩) 15 (c2 - q)) KD.out (by rfl) ?hya9 ?resta9
      case hya9 => (intro w hSw; simp only [q38r11_9]; go_simp; (try with_reducible rfl); try omega)
      try simp only [q38r11_9, Act.put, List.setIfInBounds_toArray, List.set_cons_zero, List.set_cons_succ]
      refine plan_act (o := q38r11_10) (r := p38r11_11) (fun K hK => ?_)
      simp only [q38r11_10]
      refine ite_pos2 (by rfl) ?_
      go_simp
      refine HR6.out.mono ?_
      rintro e w5 ⟨s5, n5, e5, rfl, d5, b5⟩
      rw [← HTE.out] at d5
      obtain ⟨h1, h2, h3⟩ := HUQ.out D4.out d5
      subst h1 h2 h3
      have K5 : Hid (Kp (fun _ => False) w4 w5) := KD.out.trans (Kp.of_below (F := fun _ => False) b5) (fun _ _ h => h)
      have HA5 := hid (HAT.out w5 K5.out)
      clear b5 d5 HR6
      go_wp2_with fail
      refine hK.out _ _ (fun _ => K5.out) ?_
      clear hK K
      try simp only [q38r11_10, Act.put, List.setIfInBounds_toArray, List.set_cons_zero, List.set_cons_succ]
      refine plan_take (o := q38r11_11) (r := p38r11_12) ?va11 K5.out (by rfl) ?hya11 ?resta11
      case hya11 => (intro w hSw; (try dsimp only at hSw); simp only [q38r11_11]; go_simp; try with_reducible rfl)
      try simp only [q38r11_11, Act.put, List.setIfInBounds_toArray, List.set_cons_zero, List.set_cons_succ]
      refine plan_take (o := q38r11_12) (r := p38r11_13) ?va12 K5.out (by rfl) ?hya12 ?resta12
      case hya12 => (intro w hSw; (try dsimp only at hSw); simp only [q38r11_12]; go_simp; try with_reducible rfl)
      try simp only [q38r11_12, Act.put, List.setIfInBounds_toArray, List.set_cons_zero, List.set_cons_succ]
      refine plan_take (o := q38r11_13) (r := p38r11_14) ?va13 K5.out (by rfl) ?hya13 ?resta13
      case hya13 => (intro w hSw; (try dsimp only at hSw); simp only [q38r11_13]; go_simp; try with_reducible rfl)
      try simp only [q38r11_13, Act.put, List.setIfInBounds_toArray, List.set_cons_zero, List.set_cons_succ]
      refine plan_take (o := q38r11_14) (r := p38r11_15) ?va14 K5.out (by rfl) ?hya14 ?resta14
      case hya14 => (intro w hSw; (try dsimp only at hSw); simp only [q38r11_14]; go_simp; try with_reducible rfl)
      try simp only [q38r11_14, Act.put, List.setIfInBounds_toArray, List.set_cons_zero, List.set_cons_succ]
      refine plan_take (o := q38r11_15) (r := p38r11_16) ?va15 K5.out (by rfl) ?hya15 ?resta15
      case hya15 => (intro w hSw; (try dsimp only at hSw); simp only [q38r11_15]; go_simp; try with_reducible rfl)
      try simp only [q38r11_15, Act.put, List.setIfInBounds_toArray, List.set_cons_zero, List.set_cons_succ]
      refine plan_take (o := q38r11_16) (r := p38r11_17) ?va16 K5.out (by rfl) ?hya16 ?resta16
      case hya16 => (intro w hSw; (try dsimp only at hSw); simp only [q38r11_16]; go_simp; try with_reducible rfl)
      try simp only [q38r11_16, Act.put, List.setIfInBounds_toArray, List.set_cons_zero, List.set_cons_succ]
      refine plan_take (o := q38r11_17) (r := p38r11_18) ?va17 K5.out (by rfl) ?hya17 ?resta17
      case hya17 => (intro w hSw; (try dsimp only at hSw); simp only [q38r11_17]; go_simp; try with_reducible rfl)
      try simp only [q38r11_17, Act.put, List.setIfInBounds_toArray, List.set_cons_zero, List.set_cons_succ]
      refine plan_done ?_
      have hsum : IntKind.i64.wrap ((q : Int) + (n4 : Int)) = ((q + n4 : Nat) : Int) := by rw [IntKind.wrap_i64]; omega
      have hsum2 : (q : Int) + (n4 : Int) = ((q + n4 : Nat) : Int) := by omega
      go_wp2_with (first | (go_at_call 13; refine (HNU.out _ _).mono ?_; rintro e1 w9 ⟨rfl, rfl⟩))
      refine HA5.out.mono ?_
      rintro e w6 ⟨rfl, k6⟩
      have K6 : Hid (Kp (fun _ => False) w4 w6) := K5.out.trans k6 (fun _ _ h => h)
      clear k6 HA5 cc0 cd0
      rcases D4.out with ⟨kk, m, _, h2, h3, _⟩ | ⟨_, _, h3, _⟩ | ⟨_, _, h3, _⟩
      · subst h3
        have hn4 : 1 ≤ n4 := by omega
        have R6 := hid (R4.out.ok (kpZ K6.out))
        have K26 : Hid (Kp (fun i => i = gr) w2 w6) := (HK.out.trans K4.out (fun _ _ e => e)).trans K6.out (fun _ _ h => h.elim)
        obtain ⟨qn, hqn⟩ : ∃ qn, qn = q + n4 := ⟨_, rfl⟩
        rw [← hqn] at R6 hsum hsum2 ⊢
        have HQN := hid hqn
        clear hqn
        go_wp2_with fail
        go_roundw
        case rel => exact ⟨qn, by go_num, by have := HQN.out; have := HTT.out; omega, R6, K26⟩
        case measure => simp [intOf]; have := HQN.out; omega
      · subst h3
        have KF : Hid (Kp (fun _ => False) w w6) := (HKA.out.trans ((K4X.out.trans K6.out (fun _ _ h => h.elim)).mono (fun i _ e => e)) (fun i hi e => by have := HGR.out.1; have := HXS.out; omega))
        go_wp2_with fail
        go_ret
        exact ⟨rfl, KF.out⟩
      · subst h3
        have KF : Hid (Kp (fun _ => False) w w6) := (HKA.out.trans ((K4X.out.trans K6.out (fun _ _ h => h.elim)).mono (fun i _ e => e)) (fun i hi e => by have := HGR.out.1; have := HXS.out; omega))
        go_wp2_with fail
        go_ret
        exact ⟨rfl, KF.out⟩
    · have hmn : min ((q : Int) + 15) (T : Int) = (T : Int) := by omega
      have hmn2 : (T : Int) < (q : Int) + 15 := by omega
      have hte : t = T - q := by omega
      have hs1 : (T : Int) ≤ (c2 : Int) := by omega
      have hs2 : (q : Int) ≤ (T : Int) := by omega
      have hs0 : (0 : Int) ≤ (q : Int) := by omega
      by_cases hcq : c2 = q
      · have hTq : T = q := by omega
        have hte0 : t = 0 := by omega
        have HR6 := hid (HRT.out w4.drew 0 (.inr (K4.out.drew)) (fun h => by omega))
        rw [hte0, show c2 - q = 0 by omega] at HR6
        have HTE := hid hte0
        clear hte hte0 hmn
        have HTQ := hid hTq
        clear hTq
        clear HRT
        go_wp2_with fail
        change (Code.region 11 o38r11 true).wp _ _ _ _
        refine wp_region_plan (fun U => Kp (fun _ => False) w4 U) [] c38r11 p38r11_0 hmix b38r11 d38r11 (fun _ _ d _ _ h => by cases d <;> exact h) ?_
        refine plan_take (o := q38r11_0) (r := p38r11_1) ?vb0 KD.out (by rfl) ?hyb0 ?restb0
        case hyb0 => (intro w hSw; (try dsimp only at hSw); simp only [q38r11_0]; go_simp; try with_reducible rfl)
        try simp only [q38r11_0, Act.put, List.setIfInBounds_toArray, List.set_cons_zero, List.set_cons_succ]
        refine plan_take (o := q38r11_1) (r := p38r11_2) (.slice ao zs.length oc) KD.out (by rfl) ?hyb1 ?restb1
        case hyb1 => (intro w hSw; (try dsimp only at hSw); have y1 := HPR.out _ hSw; simp only [q38r11_1]; go_simp; try with_reducible rfl)
        try simp only [q38r11_1, Act.put, List.setIfInBounds_toArray, List.set_cons_zero, List.set_cons_succ]
        refine plan_take (o := q38r11_2) (r := p38r11_3) ?vb2 KD.out (by rfl) ?hyb2 ?restb2
        case hyb2 => (intro w hSw; (try dsimp only at hSw); simp only [q38r11_2]; go_simp; try with_reducible rfl)
        try simp only [q38r11_2, Act.put, List.setIfInBounds_toArray, List.set_cons_zero, List.set_cons_succ]
        refine plan_take (o := q38r11_3) (r := p38r11_4) ?vb3 KD.out (by rfl) ?hyb3 ?restb3
        case hyb3 => (intro w hSw; (try dsimp only at hSw); simp only [q38r11_3]; go_simp; try with_reducible rfl)
        try simp only [q38r11_3, Act.put, List.setIfInBounds_toArray, List.set_cons_zero, List.set_cons_succ]
        refine plan_take (o := q38r11_4) (r := p38r11_5) ?vb4 KD.out (by rfl) ?hyb4 ?restb4
        case hyb4 => (intro w hSw; (try dsimp only at hSw); simp only [q38r11_4]; go_simp; try with_reducible rfl)
        try simp only [q38r11_4, Act.put, List.setIfInBounds_toArray, List.set_cons_zero, List.set_cons_succ]
        refine plan_take (o := q38r11_5) (r := p38r11_6) ?vb5 KD.out (by rfl) ?hyb5 ?restb5
        case hyb5 => (intro w hSw; (try dsimp only at hSw); simp only [q38r11_5]; go_simp; try with_reducible rfl)
        try simp only [q38r11_5, Act.put, List.setIfInBounds_toArray, List.set_cons_zero, List.set_cons_succ]
        refine plan_take (o := q38r11_6) (r := p38r11_7) ?vb6 KD.out (by rfl) ?hyb6 ?restb6
        case hyb6 => (intro w hSw; (try dsimp only at hSw); simp only [q38r11_6]; go_simp; try with_reducible rfl)
        try simp only [q38r11_6, Act.put, List.setIfInBounds_toArray, List.set_cons_zero, List.set_cons_succ]
        refine plan_take (o := q38r11_7) (r := p38r11_8) ?vb7 KD.out (by rfl) ?hyb7 ?restb7
        case hyb7 => (intro w hSw; (try dsimp only at hSw); simp only [q38r11_7]; go_simp; try with_reducible rfl)
        try simp only [q38r11_7, Act.put, List.setIfInBounds_toArray, List.set_cons_zero, List.set_cons_succ]
        refine plan_take (o := q38r11_8) (r := p38r11_9) (.int .i64 ((T : Int))) KD.out (by rfl) ?hyb8 ?restb8
        case hyb8 => (intro w hSw; simp only [q38r11_8]; go_simp; (try with_reducible rfl); try omega)
        try simp only [q38r11_8, Act.put, List.setIfInBounds_toArray, List.set_cons_zero, List.set_cons_succ]
        refine plan_take (o := q38r11_9) (r := p38r11_10) (.slice (some ⟨go, 0, none⟩) 0 0) KD.out (by rfl) ?hyb9 ?restb9
        case hyb9 => (intro w hSw; have hTq := HTQ.out; simp only [q38r11_9]; go_simp; (try with_reducible rfl); try omega)
        try simp only [q38r11_9, Act.put, List.setIfInBounds_toArray, List.set_cons_zero, List.set_cons_succ]
        refine plan_act (o := q38r11_10) (r := p38r11_11) (fun K hK => ?_)
        simp only [q38r11_10]
        refine ite_pos2 (by rfl) ?_
        go_simp
        refine HR6.out.mono ?_
        rintro e w5 ⟨s5, n5, e5, rfl, d5, b5⟩
        rw [← HTE.out] at d5
        obtain ⟨h1, h2, h3⟩ := HUQ.out D4.out d5
        subst h1 h2 h3
        have K5 : Hid (Kp (fun _ => False) w4 w5) := KD.out.trans (Kp.of_below (F := fun _ => False) b5) (fun _ _ h => h)
        have HA5 := hid (HAT.out w5 K5.out)
        clear b5 d5 HR6
        go_wp2_with fail
        refine hK.out _ _ (fun _ => K5.out) ?_
        clear hK K
        try simp only [q38r11_10, Act.put, List.setIfInBounds_toArray, List.set_cons_zero, List.set_cons_succ]
        refine plan_take (o := q38r11_11) (r := p38r11_12) ?vb11 K5.out (by rfl) ?hyb11 ?restb11
        case hyb11 => (intro w hSw; (try dsimp only at hSw); simp only [q38r11_11]; go_simp; try with_reducible rfl)
        try simp only [q38r11_11, Act.put, List.setIfInBounds_toArray, List.set_cons_zero, List.set_cons_succ]
        refine plan_take (o := q38r11_12) (r := p38r11_13) ?vb12 K5.out (by rfl) ?hyb12 ?restb12
        case hyb12 => (intro w hSw; (try dsimp only at hSw); simp only [q38r11_12]; go_simp; try with_reducible rfl)
        try simp only [q38r11_12, Act.put, List.setIfInBounds_toArray, List.set_cons_zero, List.set_cons_succ]
        refine plan_take (o := q38r11_13) (r := p38r11_14) ?vb13 K5.out (by rfl) ?hyb13 ?restb13
        case hyb13 => (intro w hSw; (try dsimp only at hSw); simp only [q38r11_13]; go_simp; try with_reducible rfl)
        try simp only [q38r11_13, Act.put, List.setIfInBounds_toArray, List.set_cons_zero, List.set_cons_succ]
        refine plan_take (o := q38r11_14) (r := p38r11_15) ?vb14 K5.out (by rfl) ?hyb14 ?restb14
        case hyb14 => (intro w hSw; (try dsimp only at hSw); simp only [q38r11_14]; go_simp; try with_reducible rfl)
        try simp only [q38r11_14, Act.put, List.setIfInBounds_toArray, List.set_cons_zero, List.set_cons_succ]
        refine plan_take (o := q38r11_15) (r := p38r11_16) ?vb15 K5.out (by rfl) ?hyb15 ?restb15
        case hyb15 => (intro w hSw; (try dsimp only at hSw); simp only [q38r11_15]; go_simp; try with_reducible rfl)
        try simp only [q38r11_15, Act.put, List.setIfInBounds_toArray, List.set_cons_zero, List.set_cons_succ]
        refine plan_take (o := q38r11_16) (r := p38r11_17) ?vb16 K5.out (by rfl) ?hyb16 ?restb16
        case hyb16 => (intro w hSw; (try dsimp only at hSw); simp only [q38r11_16]; go_simp; try with_reducible rfl)
        try simp only [q38r11_16, Act.put, List.setIfInBounds_toArray, List.set_cons_zero, List.set_cons_succ]
        refine plan_take (o := q38r11_17) (r := p38r11_18) ?vb17 K5.out (by rfl) ?hyb17 ?restb17
        case hyb17 => (intro w hSw; (try dsimp only at hSw); simp only [q38r11_17]; go_simp; try with_reducible rfl)
        try simp only [q38r11_17, Act.put, List.setIfInBounds_toArray, List.set_cons_zero, List.set_cons_succ]
        refine plan_done ?_
        have hsum : IntKind.i64.wrap ((q : Int) + (n4 : Int)) = ((q + n4 : Nat) : Int) := by rw [IntKind.wrap_i64]; omega
        have hsum2 : (q : Int) + (n4 : Int) = ((q + n4 : Nat) : Int) := by omega
        go_wp2_with (first | (go_at_call 13; refine (HNU.out _ _).mono ?_; rintro e1 w9 ⟨rfl, rfl⟩))
        refine HA5.out.mono ?_
        rintro e w6 ⟨rfl, k6⟩
        have K6 : Hid (Kp (fun _ => False) w4 w6) := K5.out.trans k6 (fun _ _ h => h)
        clear k6 HA5 cc0 cd0
        rcases D4.out with ⟨kk, m, _, h2, h3, h4, _⟩ | ⟨_, _, h3, _⟩ | ⟨_, _, h3, _⟩
        · subst h3
          exfalso
          have h9 := HTE.out
          omega
        · subst h3
          have KF : Hid (Kp (fun _ => False) w w6) := (HKA.out.trans ((K4X.out.trans K6.out (fun _ _ h => h.elim)).mono (fun i _ e => e)) (fun i hi e => by have := HGR.out.1; have := HXS.out; omega))
          go_wp2_with fail
          go_ret
          exact ⟨rfl, KF.out⟩
        · subst h3
          have KF : Hid (Kp (fun _ => False) w w6) := (HKA.out.trans ((K4X.out.trans K6.out (fun _ _ h => h.elim)).mono (fun i _ e => e)) (fun i hi e => by have := HGR.out.1; have := HXS.out; omega))
          go_wp2_with fail
          go_ret
          exact ⟨rfl, KF.out⟩
      · have HR6 := hid (HRT.out w4.drew q (.inr (K4.out.drew)) (fun _ => rfl))
        rw [hte] at HR6
        have HTE := hid hte
        clear hte hmn
        clear HRT
        go_wp2_with fail
        change (Code.region 11 o38r11 true).wp _ _ _ _
        refine wp_region_plan (fun U => Kp (fun _ => False) w4 U) [] c38r11 p38r11_0 hmix b38r11 d38r11 (fun _ _ d _ _ h => by cases d <;> exact h) ?_
        refine plan_take (o := q38r11_0) (r := p38r11_1) ?vc0 KD.out (by rfl) ?hyc0 ?restc0
        case hyc0 => (intro w hSw; (try dsimp only at hSw); simp only [q38r11_0]; go_simp; try with_reducible rfl)
        try simp only [q38r11_0, Act.put, List.setIfInBounds_toArray, List.set_cons_zero, List.set_cons_succ]
        refine plan_take (o := q38r11_1) (r := p38r11_2) (.slice ao zs.length oc) KD.out (by rfl) ?hyc1 ?restc1
        case hyc1 => (intro w hSw; (try dsimp only at hSw); have y1 := HPR.out _ hSw; simp only [q38r11_1]; go_simp; try with_reducible rfl)
        try simp only [q38r11_1, Act.put, List.setIfInBounds_toArray, List.set_cons_zero, List.set_cons_succ]
        refine plan_take (o := q38r11_2) (r := p38r11_3) ?vc2 KD.out (by rfl) ?hyc2 ?restc2
        case hyc2 => (intro w hSw; (try dsimp only at hSw); simp only [q38r11_2]; go_simp; try with_reducible rfl)
        try simp only [q38r11_2, Act.put, List.setIfInBounds_toArray, List.set_cons_zero, List.set_cons_succ]
        refine plan_take (o := q38r11_3) (r := p38r11_4) ?vc3 KD.out (by rfl) ?hyc3 ?restc3
        case hyc3 => (intro w hSw; (try dsimp only at hSw); simp only [q38r11_3]; go_simp; try with_reducible rfl)
        try simp only [q38r11_3, Act.put, List.setIfInBounds_toArray, List.set_cons_zero, List.set_cons_succ]
        refine plan_take (o := q38r11_4) (r := p38r11_5) ?vc4 KD.out (by rfl) ?hyc4 ?restc4
        case hyc4 => (intro w hSw; (try dsimp only at hSw); simp only [q38r11_4]; go_simp; try with_reducible rfl)
        try simp only [q38r11_4, Act.put, List.setIfInBounds_toArray, List.set_cons_zero, List.set_cons_succ]
        refine plan_take (o := q38r11_5) (r := p38r11_6) ?vc5 KD.out (by rfl) ?hyc5 ?restc5
        case hyc5 => (intro w hSw; (try dsimp only at hSw); simp only [q38r11_5]; go_simp; try with_reducible rfl)
        try simp only [q38r11_5, Act.put, List.setIfInBounds_toArray, List.set_cons_zero, List.set_cons_succ]
        refine plan_take (o := q38r11_6) (r := p38r11_7) ?vc6 KD.out (by rfl) ?hyc6 ?restc6
        case hyc6 => (intro w hSw; (try dsimp only at hSw); simp only [q38r11_6]; go_simp; try with_reducible rfl)
        try simp only [q38r11_6, Act.put, List.setIfInBounds_toArray, List.set_cons_zero, List.set_cons_succ]
        refine plan_take (o := q38r11_7) (r := p38r11_8) ?vc7 KD.out (by rfl) ?hyc7 ?restc7
        case hyc7 => (intro w hSw; (try dsimp only at hSw); simp only [q38r11_7]; go_simp; try with_reducible rfl)
        try simp only [q38r11_7, Act.put, List.setIfInBounds_toArray, List.set_cons_zero, List.set_cons_succ]
        refine plan_take (o := q38r11_8) (r := p38r11_9) (.int .i64 ((T : Int))) KD.out (by rfl) ?hyc8 ?restc8
        case hyc8 => (intro w hSw; simp only [q38r11_8]; go_simp; (try with_reducible rfl); try omega)
        try simp only [q38r11_8, Act.put, List.setIfInBounds_toArray, List.set_cons_zero, List.set_cons_succ]
        refine plan_take (o := q38r11_9) (r := p38r11_10) (.slice (some ⟨go, q, none⟩) (T - q) (c2 - q)) KD.out (by rfl) ?hyc9 ?restc9
        case hyc9 => (intro w hSw; simp only [q38r11_9]; go_simp; (try with_reducible rfl); try omega)
        try simp only [q38r11_9, Act.put, List.setIfInBounds_toArray, List.set_cons_zero, List.set_cons_succ]
        refine plan_act (o := q38r11_10) (r := p38r11_11) (fun K hK => ?_)
        simp only [q38r11_10]
        refine ite_pos2 (by rfl) ?_
        go_simp
        refine HR6.out.mono ?_
        rintro e w5 ⟨s5, n5, e5, rfl, d5, b5⟩
        rw [← HTE.out] at d5
        obtain ⟨h1, h2, h3⟩ := HUQ.out D4.out d5
        subst h1 h2 h3
        have K5 : Hid (Kp (fun _ => False) w4 w5) := KD.out.trans (Kp.of_below (F := fun _ => False) b5) (fun _ _ h => h)
        have HA5 := hid (HAT.out w5 K5.out)
        clear b5 d5 HR6
        go_wp2_with fail
        refine hK.out _ _ (fun _ => K5.out) ?_
        clear hK K
        try simp only [q38r11_10, Act.put, List.setIfInBounds_toArray, List.set_cons_zero, List.set_cons_succ]
        refine plan_take (o := q38r11_11) (r := p38r11_12) ?vc11 K5.out (by rfl) ?hyc11 ?restc11
        case hyc11 => (intro w hSw; (try dsimp only at hSw); simp only [q38r11_11]; go_simp; try with_reducible rfl)
        try simp only [q38r11_11, Act.put, List.setIfInBounds_toArray, List.set_cons_zero, List.set_cons_succ]
        refine plan_take (o := q38r11_12) (r := p38r11_13) ?vc12 K5.out (by rfl) ?hyc12 ?restc12
        case hyc12 => (intro w hSw; (try dsimp only at hSw); simp only [q38r11_12]; go_simp; try with_reducible rfl)
        try simp only [q38r11_12, Act.put, List.setIfInBounds_toArray, List.set_cons_zero, List.set_cons_succ]
        refine plan_take (o := q38r11_13) (r := p38r11_14) ?vc13 K5.out (by rfl) ?hyc13 ?restc13
        case hyc13 => (intro w hSw; (try dsimp only at hSw); simp only [q38r11_13]; go_simp; try with_reducible rfl)
        try simp only [q38r11_13, Act.put, List.setIfInBounds_toArray, List.set_cons_zero, List.set_cons_succ]
        refine plan_take (o := q38r11_14) (r := p38r11_15) ?vc14 K5.out (by rfl) ?hyc14 ?restc14
        case hyc14 => (intro w hSw; (try dsimp only at hSw); simp only [q38r11_14]; go_simp; try with_reducible rfl)
        try simp only [q38r11_14, Act.put, List.setIfInBounds_toArray, List.set_cons_zero, List.set_cons_succ]
        refine plan_take (o := q38r11_15) (r := p38r11_16) ?vc15 K5.out (by rfl) ?hyc15 ?restc15
        case hyc15 => (intro w hSw; (try dsimp only at hSw); simp only [q38r11_15]; go_simp; try with_reducible rfl)
        try simp only [q38r11_15, Act.put, List.setIfInBounds_toArray, List.set_cons_zero, List.set_cons_succ]
        refine plan_take (o := q38r11_16) (r := p38r11_17) ?vc16 K5.out (by rfl) ?hyc16 ?restc16
        case hyc16 => (intro w hSw; (try dsimp only at hSw); simp only [q38r11_16]; go_simp; try with_reducible rfl)
        try simp only [q38r11_16, Act.put, List.setIfInBounds_toArray, List.set_cons_zero, List.set_cons_succ]
        refine plan_take (o := q38r11_17) (r := p38r11_18) ?vc17 K5.out (by rfl) ?hyc17 ?restc17
        case hyc17 => (intro w hSw; (try dsimp only at hSw); simp only [q38r11_17]; go_simp; try with_reducible rfl)
        try simp only [q38r11_17, Act.put, List.setIfInBounds_toArray, List.set_cons_zero, List.set_cons_succ]
        refine plan_done ?_
        have hsum : IntKind.i64.wrap ((q : Int) + (n4 : Int)) = ((q + n4 : Nat) : Int) := by rw [IntKind.wrap_i64]; omega
        have hsum2 : (q : Int) + (n4 : Int) = ((q + n4 : Nat) : Int) := by omega
        go_wp2_with (first | (go_at_call 13; refine (HNU.out _ _).mono ?_; rintro e1 w9 ⟨rfl, rfl⟩))
        refine HA5.out.mono ?_
        rintro e w6 ⟨rfl, k6⟩
        have K6 : Hid (Kp (fun _ => False) w4 w6) := K5.out.trans k6 (fun _ _ h => h)
        clear k6 HA5 cc0 cd0
        rcases D4.out with ⟨kk, m, _, h2, h3, _⟩ | ⟨_, _, h3, _⟩ | ⟨_, _, h3, _⟩
        · subst h3
          have hn4 : 1 ≤ n4 := by omega
          have R6 := hid (R4.out.ok (kpZ K6.out))
          have K26 : Hid (Kp (fun i => i = gr) w2 w6) := (HK.out.trans K4.out (fun _ _ e => e)).trans K6.out (fun _ _ h => h.elim)
          obtain ⟨qn, hqn⟩ : ∃ qn, qn = q + n4 := ⟨_, rfl⟩
          rw [← hqn] at R6 hsum hsum2 ⊢
          have HQN := hid hqn
          clear hqn
          go_wp2_with fail
          go_roundw
          case rel => exact ⟨qn, by go_num, by have := HQN.out; have := HTT.out; omega, R6, K26⟩
          case measure => simp [intOf]; have := HQN.out; omega
        · subst h3
          have KF : Hid (Kp (fun _ => False) w w6) := (HKA.out.trans ((K4X.out.trans K6.out (fun _ _ h => h.elim)).mono (fun i _ e => e)) (fun i hi e => by have := HGR.out.1; have := HXS.out; omega))
          go_wp2_with fail
          go_ret
          exact ⟨rfl, KF.out⟩
        · subst h3
          have KF : Hid (Kp (fun _ => False) w w6) := (HKA.out.trans ((K4X.out.trans K6.out (fun _ _ h => h.elim)).mono (fun i _ e => e)) (fun i hi e => by have := HGR.out.1; have := HXS.out; omega))
          go_wp2_with fail
          go_ret
          exact ⟨rfl, KF.out⟩
theorem takes_any (w : World) (g : Nat) (la ca sa ao so bo : Option Addr) (lc cc sc oc tc bc tn : Nat) (zs S B : List Int) (skip leave : Int) (h : Cd w g la ca sa lc cc sc zs S) (hlt : ∀ i, Cdf g la ca sa i → i < w.heap.size) (hs : Src .i64 w ao zs) (hB : Src .u8 w bo B) (hBl : B.length ≤ 400) (hBb : Bz.Byt B) :
    Calls Try.prog 38 #[.pointer (some ⟨g, 0, none⟩), .agg #[.slice ao zs.length oc, .slice so tn tc, .slice bo B.length bc, .int .i64 skip, .int .i64 leave]] w fun e w' => e = .returned (.bool true) ∧ Kp (fun _ => False) w w' := by
  by_cases h1 : skip < 0
  · exact takes_low w g la ca sa ao so bo lc cc sc oc tc bc tn zs S B skip leave h1 h hlt hs hB hBl hBb
  · by_cases h2 : ((8 * B.length : Nat) : Int) < skip
    · exact takes_high w g la ca sa ao so bo lc cc sc oc tc bc tn zs S B skip leave h2 h hlt hs hB hBl hBb
    · obtain ⟨p, rfl⟩ := Int.eq_ofNat_of_zero_le (show 0 ≤ skip by omega)
      exact takes_in w g la ca sa ao so bo lc cc sc oc tc bc tn zs S B p leave (by omega) h hlt hs hB hBl hBb
end Go.Proofs.Ythpocbpleffdpaa
