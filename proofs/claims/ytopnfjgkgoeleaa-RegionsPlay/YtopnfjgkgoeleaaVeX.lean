/- RegionsPlay: the law's ask. -/
import Derived.Test.YtopnfjgkgoeleaaQc
import Derived.Test.YtopnfjgkgoeleaaTl
import Derived.Test.YtopnfjgkgoeleaaFr
import Derived.Test.YtopnfjgkgoeleaaMg
import Derived.Deep.CutRange
import Derived.Test.YtopnfjgkgoeleaaAs
namespace Go.Proofs.Ytopnfjgkgoeleaa
open Go.RowKit
set_option linter.unusedVariables false
set_option linter.unusedSimpArgs false
theorem wo_srt2 {l : List Rn} (h : Srt l) (i : Nat) : Srt (wo l i) := by
  unfold wo
  refine h.sub ?_
  have h1 : (l.drop (i + 1)).Sublist (l.drop i) := by rw [← List.drop_drop]; exact List.drop_sublist _ _
  have h2 := (List.Sublist.refl (l.take i)).append h1
  rwa [List.take_append_drop] at h2
theorem wo_len2 (l : List Rn) (i : Nat) : (wo l i).length ≤ l.length := by
  unfold wo
  simp
  omega
set_option maxRecDepth 100000 in
set_option maxHeartbeats 16000000 in
theorem rtake_any (w : World) (q : Nat) (l : List Rn) (p : Int) (h : RL q w l) :
    Calls Try.prog 35 #[.pointer (some ⟨q, 0, none⟩), .int .i64 p] w fun e w' => (bgn l p = false ∧ e = .returned (.tuple #[.agg zRn.cs, .int .i64 7]) ∧ Kp (fun _ => False) w w') ∨ (bgn l p = true ∧ e = .returned (.tuple #[.agg (l.getD (bey l p) zRn).cs, .int .i64 0]) ∧ RL q w' (wo l (bey l p)) ∧ Kp (fun i => i = q) w w' ∧ ∀ b off n cap, w'.cell? ⟨q, 0, none⟩ = some (.slice (some ⟨b, off, none⟩) n cap) → w.heap.size ≤ b) := by
  have hmix : Try.prog.follows .mixedOrders = true := by kernel_rfl
  have ka : Kp (fun _ => False) w (w.alloc (.cells #[.int .i64 0, .int .i64 0, .int .i64 0] 46)) := (Kp.refl _ _).alloc _
  have R0 : Hid (Rn.B (w.alloc (.cells #[.int .i64 0, .int .i64 0, .int .i64 0] 46)) w.heap.size zRn) := Rn.B.new w zRn
  have HRX := hid (h.kp ka)
  have HF := hid (rfind_any _ q l p HRX.out)
  have HSR := hid h.srt
  have hl6 := h.len
  have HQL : Hid (q < w.heap.size) := h.lt
  have KA := hid ka
  clear h ka
  go_enter Try.func35, Try.ntmps35
  go_wp2_with fail
  refine HF.out.mono ?_
  rintro e w1 ⟨h1, k1⟩
  have K1 := hid k1
  generalize w.alloc (.cells #[.int .i64 0, .int .i64 0, .int .i64 0] 46) = X at *
  obtain ⟨T, hT⟩ : ∃ T, T = w.heap.size := ⟨_, rfl⟩
  rw [← hT] at R0 HQL ⊢
  have HT := hid hT
  have R1 := hid (R0.out.kp k1 (fun h => h))
  clear hT k1 HF
  rcases h1 with ⟨hb, rfl⟩ | ⟨hb, rfl⟩
  · obtain ⟨i, hi⟩ : ∃ i, i = bey l p := ⟨_, rfl⟩
    have HB := hid hb
    have HLT := hid (bgn_lt hb)
    rw [← hi] at HLT ⊢
    have HI := hid hi
    obtain ⟨ao, cap, hq, hs, ht, hc1, hc2, hz⟩ := (HRX.out.kp K1.out).mem
    obtain ⟨n, hn⟩ : ∃ n, n = l.length := ⟨_, rfl⟩
    have hin : i < n := by rw [hn]; exact HLT.out.1
    have hil : i < l.length := HLT.out.1
    obtain ⟨gb, off, rfl, _, x0, x1, x2⟩ := hs.at (i := i) hil
    rw [← hn] at hq hc1 hl6
    have HL := hid hn
    have HQ := hid hq
    have HS1 := hid hs
    unfold maxLen at hc2
    have zq : w1.cell? ⟨q, 0, none⟩ = some (.slice (some ⟨gb, off, none⟩) n cap) := hq.cell 0
    clear hb hi hn hil hq hs ht hz
    obtain ⟨x, hx⟩ : ∃ x, x = l.getD i zRn := ⟨_, rfl⟩
    rw [← hx] at x0 x1 x2
    have HXX := hid hx
    clear hx
    have hi0 : (0 : Int) ≤ (i : Int) := by omega
    have hi1 : (i : Int) < (n : Int) := by omega
    have hi2 : ¬ (i : Int) < 0 := by omega
    have w1' : IntKind.i64.wrap ((i : Int) + 1) = (i : Int) + 1 := by rw [IntKind.wrap_i64]; omega
    have hi3 : (i : Int) ≤ (cap : Int) := by omega
    have hi4 : (i : Int) + 1 ≤ (n : Int) := by omega
    have hi5 : (i : Int) + 1 ≤ (cap : Int) := by omega
    have hi6 : (0 : Int) ≤ (i : Int) + 1 := by omega
    go_upto_region 6 with (first | (refine wpList_store_r rfl _ _ rfl _ rfl (e' := x) rfl (Rn.B.new w1 zRn) ?_; intro V s2 k2; have k3 := ((Kp.refl (fun _ => False) w1).alloc (.cells zRn.cs 46)).trans k2 (fun i hi e => by omega); have B7 := hid s2; have KV := hid k3; clear s2 k2 k3))
    have HQV := hid (HQ.out.kp KV.out (fun h => h))
    have HS := hid (HS1.out.kp KV.out (fun _ _ _ _ h => h))
    have HRV := hid ((HRX.out.kp K1.out).kp KV.out)
    have RV := hid (R1.out.kp KV.out (fun h => h))
    have KWV := hid ((KA.out.trans K1.out (fun _ _ h => h)).trans KV.out (fun _ _ h => h))
    have HSC : Hid (∀ U, Kp (fun _ => False) V U → U.cell? ⟨q, 0, none⟩ = some (.slice (some ⟨gb, off, none⟩) n cap)) := fun U ku => (HQV.out.kp ku (fun h => h)).cell 0
    have KD : Hid (Kp (fun _ => False) V V.drew) := (Kp.refl (fun _ => False) V).drew
    have HSW := hid (wo_srt2 HSR.out i)
    have HWL := hid (wo_len2 l i)
    have H7T : Hid (T < w1.heap.size) := R1.out.lt
    clear zq x0 x1 x2 HQ HS1
    · skip
      refine wp_region_G (fun U => U.cell? ⟨q, 0, none⟩ = some (.slice (some ⟨gb, off, none⟩) n cap)) [19] hmix (HSC.out _ KD.out) (fun h0 => ?_)
      refine wpAnyG_take (i := 0) (oi := { dst := some 22, op := Go.Op.move (Go.Operand.tmp 0), type := 26, pos := "ref.go:70", after := #[], guard := none }) (v := ?vt0) rfl (by kernel_rfl) (fun _ _ _ h => h) (Or.inl ⟨by rfl, ?hyt0⟩) h0 ?restt0
      case hyt0 => (intro w hSw; (try dsimp only at hSw); go_simp; try with_reducible rfl)
      try simp only [Act.put, List.setIfInBounds_toArray, List.set_cons_zero, List.set_cons_succ]
      refine wpAnyG_take (i := 1) (oi := { dst := some 23, op := Go.Op.move (Go.Operand.tmp 8), type := 27, pos := "ref.go:70", after := #[], guard := none }) (v := ?vt1) rfl (by kernel_rfl) (fun _ _ _ h => h) (Or.inl ⟨by rfl, ?hyt1⟩) h0 ?restt1
      case hyt1 => (intro w hSw; (try dsimp only at hSw); go_simp; try with_reducible rfl)
      try simp only [Act.put, List.setIfInBounds_toArray, List.set_cons_zero, List.set_cons_succ]
      refine wpAnyG_take (i := 2) (oi := { dst := some 24, op := Go.Op.move (Go.Operand.tmp 0), type := 26, pos := "ref.go:70", after := #[], guard := none }) (v := ?vt2) rfl (by kernel_rfl) (fun _ _ _ h => h) (Or.inl ⟨by rfl, ?hyt2⟩) h0 ?restt2
      case hyt2 => (intro w hSw; (try dsimp only at hSw); go_simp; try with_reducible rfl)
      try simp only [Act.put, List.setIfInBounds_toArray, List.set_cons_zero, List.set_cons_succ]
      refine wpAnyG_take (i := 3) (oi := { dst := some 25, op := Go.Op.nilCheck (Go.Operand.tmp 24), type := 0, pos := "ref.go:70", after := #[{ on := 2, ground := Go.Ground.data }], guard := none }) (v := ?vt3) rfl (by kernel_rfl) (fun _ _ _ h => h) (Or.inl ⟨by rfl, ?hyt3⟩) h0 ?restt3
      case hyt3 => (intro w hSw; (try dsimp only at hSw); go_simp; try with_reducible rfl)
      try simp only [Act.put, List.setIfInBounds_toArray, List.set_cons_zero, List.set_cons_succ]
      refine wpAnyG_take (i := 4) (oi := { dst := some 26, op := Go.Op.fieldAddr 29 (Go.Operand.tmp 25) 0, type := 0, pos := "ref.go:70", after := #[{ on := 3, ground := Go.Ground.data }], guard := none }) (v := ?vt4) rfl (by kernel_rfl) (fun _ _ _ h => h) (Or.inl ⟨by rfl, ?hyt4⟩) h0 ?restt4
      case hyt4 => (intro w hSw; (try dsimp only at hSw); go_simp; try with_reducible rfl)
      try simp only [Act.put, List.setIfInBounds_toArray, List.set_cons_zero, List.set_cons_succ]
      refine wpAnyG_take (i := 5) (oi := { dst := some 27, op := Go.Op.load 27 (Go.Operand.tmp 26), type := 27, pos := "ref.go:70", after := #[{ on := 4, ground := Go.Ground.data }], guard := none }) (v := ?vt5) rfl (by kernel_rfl) (fun _ _ _ h => h) (Or.inl ⟨by rfl, ?hyt5⟩) h0 ?restt5
      case hyt5 => (intro w hSw; (try dsimp only at hSw); go_simp; try with_reducible rfl)
      try simp only [Act.put, List.setIfInBounds_toArray, List.set_cons_zero, List.set_cons_succ]
      refine wpAnyG_take (i := 6) (oi := { dst := some 28, op := Go.Op.move (Go.Operand.tmp 6), type := 3, pos := "ref.go:70", after := #[], guard := none }) (v := ?vt6) rfl (by kernel_rfl) (fun _ _ _ h => h) (Or.inl ⟨by rfl, ?hyt6⟩) h0 ?restt6
      case hyt6 => (intro w hSw; (try dsimp only at hSw); go_simp; try with_reducible rfl)
      try simp only [Act.put, List.setIfInBounds_toArray, List.set_cons_zero, List.set_cons_succ]
      refine wpAnyG_take (i := 7) (oi := { dst := some 29, op := Go.Op.slice 27 (Go.Operand.tmp 27) none (some (Go.Operand.tmp 28)) none, type := 27, pos := "ref.go:70", after := #[{ on := 5, ground := Go.Ground.data }, { on := 6, ground := Go.Ground.data }], guard := none }) (v := ?vt7) rfl (by kernel_rfl) (fun _ _ _ h => h) (Or.inl ⟨by rfl, ?hyt7⟩) h0 ?restt7
      case hyt7 => (intro w hSw; (try dsimp only at hSw); go_simp; try with_reducible rfl)
      try simp only [Act.put, List.setIfInBounds_toArray, List.set_cons_zero, List.set_cons_succ]
      refine wpAnyG_take (i := 9) (oi := { dst := some 31, op := Go.Op.move (Go.Operand.tmp 0), type := 26, pos := "ref.go:70", after := #[], guard := none }) (v := ?vt9) rfl (by kernel_rfl) (fun _ _ _ h => h) (Or.inl ⟨by rfl, ?hyt9⟩) h0 ?restt9
      case hyt9 => (intro w hSw; (try dsimp only at hSw); go_simp; try with_reducible rfl)
      try simp only [Act.put, List.setIfInBounds_toArray, List.set_cons_zero, List.set_cons_succ]
      refine wpAnyG_take (i := 10) (oi := { dst := some 32, op := Go.Op.nilCheck (Go.Operand.tmp 31), type := 0, pos := "ref.go:70", after := #[{ on := 9, ground := Go.Ground.data }], guard := none }) (v := ?vt10) rfl (by kernel_rfl) (fun _ _ _ h => h) (Or.inl ⟨by rfl, ?hyt10⟩) h0 ?restt10
      case hyt10 => (intro w hSw; (try dsimp only at hSw); go_simp; try with_reducible rfl)
      try simp only [Act.put, List.setIfInBounds_toArray, List.set_cons_zero, List.set_cons_succ]
      refine wpAnyG_take (i := 11) (oi := { dst := some 33, op := Go.Op.fieldAddr 29 (Go.Operand.tmp 32) 0, type := 0, pos := "ref.go:70", after := #[{ on := 10, ground := Go.Ground.data }], guard := none }) (v := ?vt11) rfl (by kernel_rfl) (fun _ _ _ h => h) (Or.inl ⟨by rfl, ?hyt11⟩) h0 ?restt11
      case hyt11 => (intro w hSw; (try dsimp only at hSw); go_simp; try with_reducible rfl)
      try simp only [Act.put, List.setIfInBounds_toArray, List.set_cons_zero, List.set_cons_succ]
      refine wpAnyG_take (i := 12) (oi := { dst := some 34, op := Go.Op.load 27 (Go.Operand.tmp 33), type := 27, pos := "ref.go:70", after := #[{ on := 11, ground := Go.Ground.data }], guard := none }) (v := ?vt12) rfl (by kernel_rfl) (fun _ _ _ h => h) (Or.inl ⟨by rfl, ?hyt12⟩) h0 ?restt12
      case hyt12 => (intro w hSw; (try dsimp only at hSw); go_simp; try with_reducible rfl)
      try simp only [Act.put, List.setIfInBounds_toArray, List.set_cons_zero, List.set_cons_succ]
      refine wpAnyG_take (i := 13) (oi := { dst := some 35, op := Go.Op.move (Go.Operand.tmp 6), type := 3, pos := "ref.go:70", after := #[], guard := none }) (v := ?vt13) rfl (by kernel_rfl) (fun _ _ _ h => h) (Or.inl ⟨by rfl, ?hyt13⟩) h0 ?restt13
      case hyt13 => (intro w hSw; (try dsimp only at hSw); go_simp; try with_reducible rfl)
      try simp only [Act.put, List.setIfInBounds_toArray, List.set_cons_zero, List.set_cons_succ]
      refine wpAnyG_take (i := 14) (oi := { dst := some 36, op := Go.Op.binOp Go.BinOp.add 3 (Go.Operand.tmp 35) (Go.Operand.const (Go.Value.int Go.IntKind.i64 1)) 3, type := 3, pos := "ref.go:70", after := #[{ on := 13, ground := Go.Ground.data }], guard := none }) (v := ?vt14) rfl (by kernel_rfl) (fun _ _ _ h => h) (Or.inl ⟨by rfl, ?hyt14⟩) h0 ?restt14
      case hyt14 => (intro w hSw; (try dsimp only at hSw); go_simp; try with_reducible rfl)
      try simp only [Act.put, List.setIfInBounds_toArray, List.set_cons_zero, List.set_cons_succ]
      refine wpAnyG_take (i := 15) (oi := { dst := some 37, op := Go.Op.slice 27 (Go.Operand.tmp 34) (some (Go.Operand.tmp 36)) none none, type := 27, pos := "ref.go:70", after := #[{ on := 12, ground := Go.Ground.data }, { on := 14, ground := Go.Ground.data }], guard := none }) (v := ?vt15) rfl (by kernel_rfl) (fun _ _ _ h => h) (Or.inl ⟨by rfl, ?hyt15⟩) h0 ?restt15
      case hyt15 => (intro w hSw; (try dsimp only at hSw); go_simp; try with_reducible rfl)
      try simp only [Act.put, List.setIfInBounds_toArray, List.set_cons_zero, List.set_cons_succ]
      refine wpAnyG_one (i := 8) (o := { dst := some 30, op := Go.Op.call { callee := Go.Callee.builtin Go.Builtin.append, args := #[Go.Operand.tmp 23, Go.Operand.tmp 29], argTypes := #[27, 27] }, type := 27, pos := "ref.go:70", after := #[{ on := 1, ground := Go.Ground.data }, { on := 7, ground := Go.Ground.data }], guard := none }) (by kernel_rfl) rfl (fun K hK => ?_)
      obtain ⟨v1, wA, rr, o1, k1⟩ := own_appr2 (ty := 27) (M := l.take i) (ao := some ⟨gb, off, none⟩) (m := i) (c := cap) (Ownr.nil _ _) (by rw [List.length_take]; have := HL.out; omega) (fun e => by cases e) ((HS.out.kp KD.out (fun _ _ _ _ h => h)).take i) (by have := HL.out; simp only [List.length_nil]; omega) KD.out.size
      refine ite_pos2 (by rfl) ?_
      refine Lib.wp_append_run _ _ _ _ _ rfl _ _ rfl rfl _ _ rr ?_
      have K1 : Hid (Kp (fun _ => False) V wA) := KD.out.trans k1 (fun i hi e => by simp [Value.ownBlock] at e)
      have O1 : Hid (Ownr wA V.heap.size v1 (l.take i)) := by rw [List.nil_append] at o1; exact o1
      refine hK.out _ _ (fun _ _ => HSC.out _ K1.out) ?_
      clear hK K
      try simp only [Act.put, List.setIfInBounds_toArray, List.set_cons_zero, List.set_cons_succ]
      clear rr o1 k1
      refine wpAnyG_one (i := 16) (o := { dst := some 38, op := Go.Op.call { callee := Go.Callee.builtin Go.Builtin.append, args := #[Go.Operand.tmp 30, Go.Operand.tmp 37], argTypes := #[27, 27] }, type := 27, pos := "ref.go:70", after := #[{ on := 8, ground := Go.Ground.data }, { on := 15, ground := Go.Ground.data }, { on := 8, ground := Go.Ground.chain }], guard := none }) (by kernel_rfl) rfl (fun K hK => ?_)
      obtain ⟨v2, w2, rr, o2, k2⟩ := own_appr2 (ty := 27) (M := l.drop (i + 1)) (ao := if cap = i + 1 then some ⟨gb, off, none⟩ else some ⟨gb, off + (i + 1) * 3, none⟩) (m := n - (i + 1)) (c := cap - (i + 1)) O1.out (by rw [List.length_drop]; have := HL.out; omega) (fun e => by split at e <;> cases e) (by
        split
        · have h1 : (l.drop (i + 1)).length = 0 := by rw [List.length_drop]; have := HL.out; omega
          rw [List.length_eq_zero_iff.1 h1]
          exact Srcr.nil _ _
        · exact (HS.out.kp K1.out (fun _ _ _ _ h => h)).drop (i + 1) (by have := HL.out; omega)) (by have := HL.out; simp only [List.length_take]; omega) K1.out.size
      refine ite_pos2 (by rfl) ?_
      refine Lib.wp_append_run _ _ _ _ _ rfl _ _ rfl rfl _ _ rr ?_
      have K2 : Hid (Kp (fun _ => False) V w2) := K1.out.trans k2 (fun i hi e => by have := (ownr_blk O1.out e).1; omega)
      have O2 : Hid (Ownr w2 V.heap.size v2 (wo l i)) := o2
      obtain ⟨a2, c2, e2, _⟩ := O2.out.src
      subst e2
      refine hK.out _ _ (fun _ _ => HSC.out _ K2.out) ?_
      clear hK K
      try simp only [Act.put, List.setIfInBounds_toArray, List.set_cons_zero, List.set_cons_succ]
      clear rr o2 k2
      obtain ⟨n2, hn2⟩ : ∃ n2, n2 = (wo l i).length := ⟨_, rfl⟩
      rw [← hn2] at O2 ⊢
      clear hn2
      refine wpAnyG_take (i := 17) (oi := { dst := some 39, op := Go.Op.nilCheck (Go.Operand.tmp 22), type := 0, pos := "ref.go:70", after := #[{ on := 0, ground := Go.Ground.data }, { on := 0, ground := Go.Ground.phase }, { on := 1, ground := Go.Ground.phase }, { on := 2, ground := Go.Ground.phase }, { on := 3, ground := Go.Ground.phase }, { on := 4, ground := Go.Ground.phase }, { on := 5, ground := Go.Ground.phase }, { on := 6, ground := Go.Ground.phase }, { on := 7, ground := Go.Ground.phase }, { on := 8, ground := Go.Ground.phase }, { on := 9, ground := Go.Ground.phase }, { on := 10, ground := Go.Ground.phase }, { on := 11, ground := Go.Ground.phase }, { on := 12, ground := Go.Ground.phase }, { on := 13, ground := Go.Ground.phase }, { on := 14, ground := Go.Ground.phase }, { on := 15, ground := Go.Ground.phase }, { on := 16, ground := Go.Ground.phase }], guard := none }) (v := ?vt17) rfl (by kernel_rfl) (fun _ _ _ h => h) (Or.inl ⟨by rfl, ?hyt17⟩) (HSC.out _ K2.out) ?restt17
      case hyt17 => (intro w hSw; (try dsimp only at hSw); go_simp; try with_reducible rfl)
      try simp only [Act.put, List.setIfInBounds_toArray, List.set_cons_zero, List.set_cons_succ]
      refine wpAnyG_take (i := 18) (oi := { dst := some 40, op := Go.Op.fieldAddr 29 (Go.Operand.tmp 39) 0, type := 0, pos := "ref.go:70", after := #[{ on := 17, ground := Go.Ground.data }, { on := 0, ground := Go.Ground.phase }, { on := 1, ground := Go.Ground.phase }, { on := 2, ground := Go.Ground.phase }, { on := 3, ground := Go.Ground.phase }, { on := 4, ground := Go.Ground.phase }, { on := 5, ground := Go.Ground.phase }, { on := 6, ground := Go.Ground.phase }, { on := 7, ground := Go.Ground.phase }, { on := 8, ground := Go.Ground.phase }, { on := 9, ground := Go.Ground.phase }, { on := 10, ground := Go.Ground.phase }, { on := 11, ground := Go.Ground.phase }, { on := 12, ground := Go.Ground.phase }, { on := 13, ground := Go.Ground.phase }, { on := 14, ground := Go.Ground.phase }, { on := 15, ground := Go.Ground.phase }, { on := 16, ground := Go.Ground.phase }], guard := none }) (v := ?vt18) rfl (by kernel_rfl) (fun _ _ _ h => h) (Or.inl ⟨by rfl, ?hyt18⟩) (HSC.out _ K2.out) ?restt18
      case hyt18 => (intro w hSw; (try dsimp only at hSw); go_simp; try with_reducible rfl)
      try simp only [Act.put, List.setIfInBounds_toArray, List.set_cons_zero, List.set_cons_succ]
      have f2 : w2.frozen? ⟨q, 0, none⟩ = false := (HQV.out.kp K2.out (fun h => h)).frozen 0
      have y2 := HSC.out _ K2.out
      refine wpAnyG_one (i := 19) (o := { dst := none, op := Go.Op.store 27 (Go.Operand.tmp 40) (Go.Operand.tmp 38), type := 0, pos := "ref.go:70", after := #[{ on := 18, ground := Go.Ground.data }, { on := 16, ground := Go.Ground.data }, { on := 16, ground := Go.Ground.chain }, { on := 0, ground := Go.Ground.phase }, { on := 1, ground := Go.Ground.phase }, { on := 2, ground := Go.Ground.phase }, { on := 3, ground := Go.Ground.phase }, { on := 4, ground := Go.Ground.phase }, { on := 5, ground := Go.Ground.phase }, { on := 6, ground := Go.Ground.phase }, { on := 7, ground := Go.Ground.phase }, { on := 8, ground := Go.Ground.phase }, { on := 9, ground := Go.Ground.phase }, { on := 10, ground := Go.Ground.phase }, { on := 11, ground := Go.Ground.phase }, { on := 12, ground := Go.Ground.phase }, { on := 13, ground := Go.Ground.phase }, { on := 14, ground := Go.Ground.phase }, { on := 15, ground := Go.Ground.phase }, { on := 16, ground := Go.Ground.phase }], guard := none }) (by kernel_rfl) rfl (fun K hK => ?_)
      refine ite_pos2 (by rfl) ?_
      go_simp
      refine hK.out _ _ (fun h => absurd h (by decide)) ?_
      clear hK K
      try simp only [Act.put, List.setIfInBounds_toArray, List.set_cons_zero, List.set_cons_succ]
      refine wpAnyG_done (by kernel_rfl) ?_ _
      have hst := RL.store (HRV.out.kp K2.out) O2.out (by have h1 : q < T := HQL.out; have h2 : T = w.heap.size := HT.out; have := KWV.out.size; omega) HSW.out (by have := HL.out; have := HWL.out; omega)
      have HST := hid hst
      have kz : Kp (fun i => i = q) w2 (w2.setCell ⟨q, 0, none⟩ (.slice a2 n2 c2)) := kp_setCell w2 q 0 _ (fun i => i = q) rfl
      have B8 := hid ((B7.out.kp K2.out (fun h => h)).kp kz (by have h1 : q < T := HQL.out; have := H7T.out; omega))
      have B4 := hid ((RV.out.kp K2.out (fun h => h)).kp kz (by have h1 : q < T := HQL.out; omega))
      have KZ := hid kz
      clear hst kz y2 f2
      generalize w2.setCell ⟨q, 0, none⟩ (.slice a2 n2 c2) = Y at *
      have b0 : Y.cell? ⟨w1.heap.size, 0, none⟩ = some (.int .i64 x.k) := B8.out.cell 0
      have b1 : Y.cell? ⟨w1.heap.size, 1, none⟩ = some (.int .i64 x.a) := B8.out.cell 1
      have b2 : Y.cell? ⟨w1.heap.size, 2, none⟩ = some (.int .i64 x.n) := B8.out.cell 2
      go_wp2_with (refine wpList_store_r rfl _ _ rfl _ rfl (e' := x) rfl B4.out ?_; intro w6 s6 k6; have S6 := hid s6; have K6 := hid k6; clear s6 k6)
      all_goals
        refine bodyPost_ret (results_cell_tmp2 Try.results35 _ _ _ rfl rfl (Rn.B.load S6.out)) rfl ?_
        refine .inr ⟨HB.out, ?_, ?_, ?_, ?_⟩
        · have hE : l.getD (bey l p) zRn = x := by rw [← HI.out]; exact HXX.out.symm
          have hE2 : l[bey l p]?.getD zRn = x := hE
          first | (rw [hE]; rfl) | (rw [hE2]; rfl)
        · rw [← HI.out]
          exact HST.out.1.kpo K6.out (by have h1 : q < T := HQL.out; omega) (fun b o n c hc e => by have h1 := HST.out.2 b o n c hc; have h2 := RV.out.lt; omega)
        · exact ((KWV.out.trans K2.out (fun _ _ h => h) |>.mono (fun _ _ h => h.elim)).trans KZ.out (fun _ _ h => h)).trans K6.out (fun i hi e => by have h2 : T = w.heap.size := HT.out; omega)
        · intro b o n c hc
          have h3 : Y.cell? ⟨q, 0, none⟩ = some (.slice (some ⟨b, o, none⟩) n c) := by
            rw [← hc]
            unfold World.cell?
            rw [K6.out.block q HST.out.1.lt (by have h1 : q < T := HQL.out; omega)]
          exact Nat.le_trans KWV.out.size (HST.out.2 b o n c h3)
  · have HB := hid hb
    clear hb
    go_wp2_with (refine wpList_store_r rfl _ _ rfl _ rfl (e' := zRn) rfl R1.out ?_; intro w6 s6 k6; have S6 := hid s6; have K6 := hid k6; clear s6 k6)
    refine bodyPost_ret (results_cell_tmp2 Try.results35 _ _ _ rfl rfl (Rn.B.load S6.out)) rfl ?_
    exact .inl ⟨HB.out, rfl, (KA.out.trans K1.out (fun _ _ h => h)).trans K6.out (fun i hi e => by have h2 : T = w.heap.size := HT.out; omega)⟩
end Go.Proofs.Ytopnfjgkgoeleaa

namespace Go.Proofs.Ytopnfjgkgoeleaa
open Go.RowKit
set_option linter.unusedVariables false
set_option linter.unusedSimpArgs false
/-- Its row is new, or the one that it was. -/
def Nro (q : Nat) (w w' : World) : Prop := ∀ O : Nat → Prop, (∀ i, O i → i < w.heap.size) → Rof q w O → Rof q w' O
theorem Nro.new {q : Nat} {w w' : World} (h : ∀ b off n cap, w'.cell? ⟨q, 0, none⟩ = some (.slice (some ⟨b, off, none⟩) n cap) → w.heap.size ≤ b) : Nro q w w' := fun O h1 h2 b off n cap hc ho => by
  have := h b off n cap hc
  have := h1 b ho
  omega
theorem Nro.cell {q : Nat} {w w' : World} (h : w'.cell? ⟨q, 0, none⟩ = w.cell? ⟨q, 0, none⟩) : Nro q w w' := fun O h1 h2 b off n cap hc ho => h2 b off n cap (h ▸ hc) ho
theorem RL.back {q : Nat} {w w5 : World} {l M : List Rn} {ao : Option Addr} {cap : Nat} (h : RL q w l) (hc : w.cell? ⟨q, 0, none⟩ = some (.slice ao l.length cap)) (k : Kp (fun i => i = q) w w5) (h5 : RL q w5 M) : RL q (w5.setCell ⟨q, 0, none⟩ (.slice ao l.length cap)) l := by
  obtain ⟨a0, c0, h1, h2, h3, h4, h6, h7⟩ := h.mem
  have h8 : w.cell? ⟨q, 0, none⟩ = some (.slice a0 l.length c0) := h1.cell 0
  rw [hc] at h8
  simp only [Option.some.injEq, Value.slice.injEq] at h8
  obtain ⟨rfl, _, rfl⟩ := h8
  obtain ⟨a5, c5, g1, _⟩ := h5.mem
  have kz := kp_setCell w5 q 0 (.slice ao l.length cap) (fun i => i = q) rfl
  have kk := k.trans kz (fun _ _ h => h)
  have hn : ∀ b off, ao = some ⟨b, off, none⟩ → ¬ b = q := fun b off e x => by
    obtain ⟨_, cur, hc⟩ := h3 b off none e
    have e1 : w.heap[b]? = some (.cells cur 46 (0, 0)) := hc
    have e2 : w.heap[q]? = some (.cells #[.slice ao l.length cap] 29 (0, 0)) := h1
    rw [x, e2] at e1
    simp at e1
  exact ⟨⟨ao, cap, g1.set 0 _, h2.kp kk (fun b off e _ => hn b off e), h3.kp kk hn, h4, h6, h7⟩, h.srt, h.len⟩
set_option maxRecDepth 100000 in
set_option maxHeartbeats 16000000 in
theorem rmove_any (w : World) (q : Nat) (l : List Rn) (p t : Int) (ht : I6 t) (h : RL q w l) :
    Calls Try.prog 36 #[.pointer (some ⟨q, 0, none⟩), .int .i64 p, .int .i64 t] w fun e w' => e = .returned (.int .i64 (mvE l p t)) ∧ RL q w' (mvL l p t) ∧ Kp (fun i => i = q) w w' ∧ Nro q w w' := by
  obtain ⟨ao, cap, hq, hs, _⟩ := h.mem
  have HR := hid h
  have zq : w.cell? ⟨q, 0, none⟩ = some (.slice ao l.length cap) := hq.cell 0
  have HC := hid zq
  have HTK := hid (rtake_any w q l p h)
  have HRM := hid rmay_any
  have HRP := hid rput_any
  have HQL : Hid (q < w.heap.size) := h.lt
  have HSR := hid h.srt
  obtain ⟨n, hn⟩ : ∃ n, n = l.length := ⟨_, rfl⟩
  rw [← hn] at zq HC
  have HL := hid hn
  have HT6 := hid ht
  clear hn hq hs h ht
  go_enter Try.func36, Try.ntmps36
  go_wp2_with fail
  refine HTK.out.mono ?_
  clear zq HTK
  rintro e w1 (⟨hb, rfl, k1⟩ | ⟨hb, rfl, r1, k1, nb1⟩)
  · have HB := hid hb
    have K1 := hid k1
    clear hb k1
    go_wp2_with (first | (refine wpList_store_r rfl _ _ rfl _ rfl (e' := zRn) rfl (Rn.B.new w1 zRn) ?_; intro w2 s2 k2; have k3 := ((Kp.refl (fun _ => False) w1).alloc (.cells zRn.cs 46)).trans k2 (fun i hi e => by omega); have K2 := hid (K1.out.trans k3 (fun _ _ h => h)); clear s2 k2 k3))
    go_ret
    have hE : mvE l p t = 7 := by unfold mvE; rw [if_neg (by rw [HB.out]; decide)]
    have hM : mvL l p t = l := by unfold mvL; rw [if_neg (by rw [hE]; decide)]
    rw [hE, hM]
    exact ⟨rfl, HR.out.kp K2.out, K2.out.mono (fun _ _ h => h.elim), Nro.cell (by unfold World.cell?; rw [K2.out.block q HQL.out (fun h => h)])⟩
  · have HB := hid hb
    have K1 := hid k1
    have R1 := hid r1
    have NB1 := hid nb1
    have HLT := hid (bgn_lt hb)
    obtain ⟨x, hx⟩ : ∃ x, x = l.getD (bey l p) zRn := ⟨_, rfl⟩
    have HXM := hid (HSR.out.may HLT.out.1)
    rw [← hx] at HXM ⊢
    have HY : Hid (mvY l p t = ⟨x.k, t, x.n⟩) := by show mvY l p t = _; unfold mvY; rw [← hx]
    have HX := hid hx
    obtain ⟨W, hW⟩ : ∃ W, W = wo l (bey l p) := ⟨_, rfl⟩
    rw [← hW] at R1
    have HW := hid hW
    clear hb k1 r1 nb1 hx hW
    obtain ⟨xk, xa, xn⟩ := x
    dsimp only at *
    have HQ1 : Hid (q < w1.heap.size) := R1.out.lt
    have hxm := HXM.out
    unfold Mayr at hxm
    dsimp only at hxm
    have HYI : Hid ((⟨xk, t, xn⟩ : Rn).i6) := by
      have h9 := HT6.out
      unfold I6 at h9
      show Rn.i6 _
      unfold Rn.i6
      dsimp only
      omega
    have HM3 : Hid (∀ U, Calls Try.prog 19 #[.agg #[.int .i64 xk, .int .i64 t, .int .i64 xn]] U fun e w' => e = .returned (.bool (mayb ⟨xk, t, xn⟩)) ∧ Below U.heap.size U w') := fun U => HRM.out ⟨xk, t, xn⟩ U HYI.out
    clear hxm HRM
    go_wp2_with (first | (refine wpList_store_r rfl _ _ rfl _ rfl (e' := ⟨xk, xa, xn⟩) rfl (Rn.B.new w1 zRn) ?_; intro w2 s2 k2; have k3 := ((Kp.refl (fun _ => False) w1).alloc (.cells zRn.cs 46)).trans k2 (fun i hi e => by omega); have B2 := hid s2; have K2 := hid k3; have b21 : w2.cell? ⟨w1.heap.size, 1, none⟩ = some (.int .i64 xa) := s2.cell 1; have f21 : w2.frozen? ⟨w1.heap.size, 1, none⟩ = false := St.frozen s2 1; have b20 : w2.cell? ⟨w1.heap.size, 0, none⟩ = some (.int .i64 xk) := s2.cell 0; have b22 : w2.cell? ⟨w1.heap.size, 2, none⟩ = some (.int .i64 xn) := s2.cell 2; clear s2 k2 k3))
    refine (HM3.out _).mono ?_
    rintro e w4 ⟨rfl, bl4⟩
    have kz : Kp (fun i => i = w1.heap.size) w2 (w2.setCell ⟨w1.heap.size, 1, none⟩ (.int .i64 t)) := kp_setCell w2 _ 1 _ (fun i => i = w1.heap.size) rfl
    have B3 : Rn.B (w2.setCell ⟨w1.heap.size, 1, none⟩ (.int .i64 t)) w1.heap.size ⟨xk, t, xn⟩ := St.set B2.out 1 _
    have K24 : Hid (Kp (fun _ => False) w1 w4) := (K2.out.trans kz (fun i hi e => by omega)).trans (Kp.of_below (F := fun _ => False) bl4) (fun _ _ h => h)
    have B4 := hid (B3.kp (Kp.of_below (F := fun _ => False) bl4) (fun h => h))
    have R4 := hid (R1.out.kp K24.out)
    have c40 : w4.cell? ⟨w1.heap.size, 0, none⟩ = some (.int .i64 xk) := B4.out.cell 0
    have c41 : w4.cell? ⟨w1.heap.size, 1, none⟩ = some (.int .i64 t) := B4.out.cell 1
    have c42 : w4.cell? ⟨w1.heap.size, 2, none⟩ = some (.int .i64 xn) := B4.out.cell 2
    clear kz B3 bl4 b20 b21 b22 f21 B2 HM3
    have HBK : Hid (∀ (w5 : World) (M : List Rn), Kp (fun i => i = q) w4 w5 → RL q w5 M → mvE l p t ≠ 0 → RL q (w5.setCell ⟨q, 0, none⟩ (.slice ao n cap)) (mvL l p t) ∧ Kp (fun i => i = q) w (w5.setCell ⟨q, 0, none⟩ (.slice ao n cap)) ∧ Nro q w (w5.setCell ⟨q, 0, none⟩ (.slice ao n cap))) := fun w5 M k5 r5 he => by
      have hM : mvL l p t = l := by unfold mvL; rw [if_neg he]
      have k05 : Kp (fun i => i = q) w w5 := (K1.out.trans K24.out (fun _ _ h => h.elim)).trans k5 (fun _ _ h => h)
      have hc := HC.out
      rw [HL.out] at hc ⊢
      have hr := HR.out.back hc k05 r5
      rw [hM]
      refine ⟨hr, k05.trans (kp_setCell w5 q 0 _ (fun i => i = q) rfl) (fun _ _ h => h), Nro.cell ?_⟩
      obtain ⟨a5, c5, g1, _⟩ := r5.mem
      rw [hc]
      exact (g1.set 0 (.slice ao l.length cap)).cell 0
    cases hmy : mayb ⟨xk, t, xn⟩ with
    | false =>
      have hE : mvE l p t = 2 := by unfold mvE; rw [if_pos HB.out, HY.out, if_neg (by rw [hmy]; decide)]
      have HE := hid hE
      obtain ⟨a4, c4, g1, _⟩ := R4.out.mem
      have y4 : w4.cell? ⟨q, 0, none⟩ = some (.slice a4 W.length c4) := g1.cell 0
      have f4 : w4.frozen? ⟨q, 0, none⟩ = false := g1.frozen 0
      clear g1 hE
      go_wp2_with fail
      go_ret
      have hb := HBK.out w4 W (Kp.refl _ _) R4.out (by rw [HE.out]; decide)
      rw [HE.out]
      exact ⟨rfl, hb⟩
    | true =>
      have HE : Hid (mvE l p t = plE W ⟨xk, t, xn⟩) := by show mvE l p t = _; unfold mvE; rw [if_pos HB.out, HY.out, if_pos hmy, HW.out]
      have HP4 := hid (HRP.out w4 q W ⟨xk, t, xn⟩ ((mayb_iff _).1 hmy) R4.out)
      clear hmy HRP
      go_wp2_with fail
      refine HP4.out.mono ?_
      rintro e w5 ⟨rfl, h5⟩
      have H5 := hid h5
      clear h5 c40 c41 c42 HP4
      obtain ⟨pe, hpe⟩ : ∃ pe, pe = plE W ⟨xk, t, xn⟩ := ⟨_, rfl⟩
      rw [← hpe] at HE H5 ⊢
      have HPE := hid hpe
      clear hpe
      by_cases h0 : pe = 0
      · subst h0
        go_wp2_with fail
        go_ret
        rcases H5.out with ⟨h1, _⟩ | ⟨_, h2, h3, h4⟩
        · exact absurd rfl h1
        · have hM : mvL l p t = ins W ⟨xk, t, xn⟩ := by unfold mvL; rw [if_pos HE.out, HY.out, HW.out]
          rw [HE.out, hM]
          refine ⟨rfl, h2, (K1.out.trans K24.out (fun _ _ h => h.elim)).trans h3 (fun _ _ h => h), Nro.new (fun b off n cap hc => ?_)⟩
          exact Nat.le_trans K1.out.size (Nat.le_trans K24.out.size (h4 b off n cap hc))
      · have e0 : (pe != 0) = true := by simpa using h0
        have H0 := hid h0
        have R5 : Hid (RL q w5 W ∧ Kp (fun _ => False) w4 w5) := by
          rcases H5.out with ⟨_, h2⟩ | ⟨h1, _⟩
          · exact ⟨R4.out.kp h2, h2⟩
          · exact absurd h1 h0
        obtain ⟨a5, c5, g1, _⟩ := R5.out.1.mem
        have y5 : w5.cell? ⟨q, 0, none⟩ = some (.slice a5 W.length c5) := g1.cell 0
        have f5 : w5.frozen? ⟨q, 0, none⟩ = false := g1.frozen 0
        clear g1 h0
        go_wp2_with fail
        go_ret
        have hb := HBK.out w5 W (R5.out.2.mono (fun _ _ h => h.elim)) R5.out.1 (by rw [HE.out]; exact H0.out)
        rw [HE.out]
        exact ⟨rfl, hb⟩
end Go.Proofs.Ytopnfjgkgoeleaa

namespace Go.Proofs.Ytopnfjgkgoeleaa
open Go.RowKit
set_option linter.unusedVariables false
set_option linter.unusedSimpArgs false
def fA (K : List Int) (p n : Int) (x : Rn) : Bool := !mks K x.k && bthb p n x.a x.n
theorem fA_is {K : List Int} {p n : Int} {x : Rn} (hn : 0 < n) (hx : Mayr x) : fA K p n x = (decide (p < x.e) && (decide (x.a < p + n) && !mks K x.k)) := by
  unfold fA bthb Rn.e
  unfold Mayr at hx
  have h1 : decide (0 < n) = true := by simpa using hn
  have h2 : decide (0 < x.n) = true := by simp; omega
  rw [h1, h2]
  cases mks K x.k <;> cases decide (p < x.a + x.n) <;> cases decide (x.a < p + n) <;> rfl
theorem fA_zero {K : List Int} {p n : Int} {x : Rn} (hn : ¬ 0 < n) : fA K p n x = false := by
  unfold fA bthb
  have h1 : decide (0 < n) = false := by simpa using hn
  rw [h1]
  simp
theorem ask_at {l : List Rn} (h : Srt l) {K : List Int} {p n : Int} (hn : 0 ≤ n) {k : Nat} (hk : k < l.length) (h1 : fA K p n (l.getD k zRn) = true) (h2 : ∀ j, j < k → fA K p n (l.getD j zRn) = false) : ovr l p n (mks K) = some (l.getD k zRn) := by
  by_cases h0 : 0 < n
  · unfold ovr
    rw [if_neg (by omega)]
    refine find_at hk ?_ (fun j hj => ?_)
    · rw [← fA_is h0 (h.may hk)]; exact h1
    · rw [← fA_is h0 (h.may (by omega))]; exact h2 j hj
  · rw [fA_zero h0] at h1; cases h1
theorem ask_no {l : List Rn} (h : Srt l) {K : List Int} {p n : Int} (hn : 0 ≤ n) (h2 : ∀ j, j < l.length → fA K p n (l.getD j zRn) = false) : ovr l p n (mks K) = none := by
  unfold ovr
  split
  · rfl
  · refine find_no (fun j hj => ?_)
    rw [← fA_is (by omega) (h.may hj)]
    exact h2 j hj
theorem mks_step {K : List Int} {j : Nat} (hj : j < K.length) (k : Int) : mks (K.take (j + 1)) k = (mks (K.take j) k || (K.getD j 0 == k)) := by
  have h1 : K.take (j + 1) = K.take j ++ [K.getD j 0] := by
    rw [List.take_add_one]
    simp [List.getD, List.getElem?_eq_getElem hj]
  unfold mks
  rw [h1]
  have h2 : (K.getD j 0 == k) = (k == K.getD j 0) := by
    rw [Bool.eq_iff_iff]
    simp only [beq_iff_eq]
    exact ⟨Eq.symm, Eq.symm⟩
  rw [h2]
  simp [List.contains_eq_any_beq, List.any_append]
  rfl
set_option maxRecDepth 100000 in
set_option maxHeartbeats 16000000 in
theorem rask_any (w : World) (q : Nat) (l : List Rn) (p n : Int) (bo : Option Addr) (kn kc : Nat) (K : List Int) (hp : -1 ≤ p ∧ p ≤ 72057594037927936) (hn : 0 ≤ n ∧ n ≤ 72057594037927936) (hkn : kn = K.length) (hk6 : kn ≤ 1000000) (hS : Src .i64 w bo K) (h : RL q w l) :
    Calls Try.prog 38 #[.pointer (some ⟨q, 0, none⟩), .int .i64 p, .int .i64 n, .slice bo kn kc] w fun e w' => e = .returned (.tuple #[.agg (orz (ovr l p n (mks K))).cs, .bool (ovr l p n (mks K)).isSome]) ∧ Kp (fun _ => False) w w' := by
  have ka : Kp (fun _ => False) w (w.alloc (.cells #[.int .i64 0, .int .i64 0, .int .i64 0] 46)) := (Kp.refl _ _).alloc _
  have R0 : Hid (Rn.B (w.alloc (.cells #[.int .i64 0, .int .i64 0, .int .i64 0] 46)) w.heap.size zRn) := Rn.B.new w zRn
  obtain ⟨ao, cap, hq, hs, ht, hc1, hc2, hz⟩ := (h.kp ka).mem
  have HQ := hid hq
  have HS := hid hs
  have HSR := hid h.srt
  have hl6 := h.len
  have KA := hid ka
  have HSK := hid (hS.kp0 ka)
  have HKN := hid hkn
  have HBO := hid both_any
  have HN := hid hn
  have HP := hid hp
  obtain ⟨n0, hn0⟩ : ∃ n0, n0 = l.length := ⟨_, rfl⟩
  rw [← hn0] at HQ hl6 hc1
  have HL := hid hn0
  unfold maxLen at hc2
  clear hn0 hq hs h ht hz hS hkn ka hn hp
  go_enter Try.func38, Try.ntmps38
  go_wp2_with fail
  generalize w.alloc (.cells #[.int .i64 0, .int .i64 0, .int .i64 0] 46) = X at *
  obtain ⟨T, hT⟩ : ∃ T, T = w.heap.size := ⟨_, rfl⟩
  rw [← hT] at R0 ⊢
  have HT := hid hT
  clear hT
  go_loopw [10] (fun i wr => ∃ (k : Nat), i = .int .i64 (k : Int) ∧ k ≤ n0 ∧ Hid (Kp (fun _ => False) X wr) ∧ Hid (∀ j, j < k → fA K p n (l.getD j zRn) = false)) (fun i _ => n0 - (intOf i).toNat)
  case atStart => exact ⟨0, rfl, Nat.zero_le _, Kp.refl _ _, fun j hj => by omega⟩
  case round =>
    obtain ⟨k, rfl, hk, HK, HE⟩ := hrel
    have zq : wr.cell? ⟨q, 0, none⟩ = some (.slice ao n0 cap) := (HQ.out.kp HK.out (fun h => h)).cell 0
    by_cases hlt : k < n0
    · have hkl : k < l.length := by have := HL.out; omega
      obtain ⟨gb, off, rfl, _, x0, x1, x2⟩ := (HS.out.kp HK.out (fun _ _ _ _ h => h)).at (i := k) hkl
      have HAT : Hid (fA K p n (l.getD k zRn) = true → ovr l p n (mks K) = some (l.getD k zRn)) := fun h => ask_at HSR.out HN.out.1 hkl h HE.out
      have HEN : Hid (fA K p n (l.getD k zRn) = false → ∀ j, j < k + 1 → fA K p n (l.getD j zRn) = false) := fun e j hj => by
        by_cases hj2 : j < k
        · exact HE.out j hj2
        · obtain rfl : j = k := by omega
          exact e
      have hxm := HSR.out.may hkl
      obtain ⟨x, hx⟩ : ∃ x, x = l.getD k zRn := ⟨_, rfl⟩
      rw [← hx] at x0 x1 x2 HAT HEN hxm
      unfold Mayr at hxm
      have HB1 : Hid (∀ U, Calls Try.prog 56 #[.int .i64 p, .int .i64 n, .int .i64 x.a, .int .i64 x.n] U fun e w' => e = .returned (.bool (bthb p n x.a x.n)) ∧ U = w') := fun U => HBO.out p n x.a x.n U (by have := HP.out; omega) (by have := HN.out; omega) (by omega) (by omega)
      clear hx hxm hkl
      have hk0 : (0 : Int) ≤ (k : Int) := by omega
      have hki : (k : Int) < (n0 : Int) := by omega
      go_wp2_with (first | (refine wpList_store_r rfl _ _ rfl _ rfl (e' := x) rfl (Rn.B.new wr zRn) ?_; intro V s2 k2; have k3 := ((Kp.refl (fun _ => False) wr).alloc (.cells zRn.cs 46)).trans k2 (fun i hi e => by omega); have B7 := hid s2; have KV := hid (HK.out.trans k3 (fun _ _ h => h)); clear s2 k2 k3))
      obtain ⟨T1, hT1⟩ : ∃ T1, T1 = wr.heap.size := ⟨_, rfl⟩
      rw [← hT1] at B7 ⊢
      have HT1 := hid hT1
      clear hT1 zq x0 x1 x2
      have HLAST : Hid (mks (K.take kn) x.k = mks K x.k) := by show mks _ _ = _; rw [List.take_of_length_le (by have := HKN.out; omega)]
      go_loopw [12, 13] (fun lf i wz => ∃ (j : Nat), i = .int .i64 (j : Int) ∧ lf = .bool (mks (K.take j) x.k) ∧ j ≤ kn ∧ Hid (Kp (fun _ => False) V wz)) (fun _ i _ => kn - (intOf i).toNat)
      case atStart => exact ⟨0, rfl, by simp [mks], Nat.zero_le _, Kp.refl _ _⟩
      case round =>
        obtain ⟨j, rfl, rfl, hj, HKJ⟩ := hrel
        have b0 : wr.cell? ⟨T1, 0, none⟩ = some (.int .i64 x.k) := (B7.out.kp HKJ.out (fun h => h)).cell 0
        by_cases hjn : j < kn
        · have hjl : j < K.length := by have := HKN.out; omega
          obtain ⟨kb, ko, rfl, y0⟩ : ∃ b off, bo = some ⟨b, off, none⟩ ∧ wr.cell? ⟨b, off + j, none⟩ = some (.int .i64 (K.getD j 0)) := by
            obtain ⟨b, off, e, h⟩ := (HSK.out.kp0 (KV.out.trans HKJ.out (fun _ _ h => h))) (by omega)
            exact ⟨b, off, e, h j hjl⟩
          have HST := hid (mks_step hjl x.k)
          generalize K.getD j 0 = kv at *
          have hj0 : (0 : Int) ≤ (j : Int) := by omega
          have hji : (j : Int) < (kn : Int) := by omega
          cases hb : mks (K.take j) x.k with
          | true =>
            have HS2 : Hid (mks (K.take (j + 1)) x.k = true) := by rw [HST.out, hb]; rfl
            clear hb
            go_wp2_with fail
            go_quiet (fail)
            go_wp2_with fail
            go_roundw
            case rel => exact ⟨j + 1, by go_num, by rw [HS2.out], hjn, HKJ.out.trans (drewN_kp _ _ _) (fun _ _ h => h)⟩
            case measure => simp [intOf]; omega
          | false =>
            have HS2 : Hid (mks (K.take (j + 1)) x.k = (kv == x.k)) := by rw [HST.out, hb]; rfl
            clear hb
            cases hkx : (kv == x.k) with
            | true =>
              rw [hkx] at HS2
              go_wp2_with fail
              go_quiet (fail)
              go_wp2_with fail
              go_roundw
              case rel => exact ⟨j + 1, by go_num, by rw [HS2.out], hjn, HKJ.out.trans (drewN_kp _ _ _) (fun _ _ h => h)⟩
              case measure => simp [intOf]; omega
            | false =>
              rw [hkx] at HS2
              go_wp2_with fail
              go_quiet (fail)
              go_wp2_with fail
              go_roundw
              case rel => exact ⟨j + 1, by go_num, by rw [HS2.out], hjn, HKJ.out.trans (drewN_kp _ _ _) (fun _ _ h => h)⟩
              case measure => simp [intOf]; omega
        · obtain rfl : j = kn := by omega
          have hji : ¬ (j : Int) < (j : Int) := by omega
          have b1 : wr.cell? ⟨T1, 1, none⟩ = some (.int .i64 x.a) := (B7.out.kp HKJ.out (fun h => h)).cell 1
          have b2 : wr.cell? ⟨T1, 2, none⟩ = some (.int .i64 x.n) := (B7.out.kp HKJ.out (fun h => h)).cell 2
          have R1 := hid ((R0.out.kp KV.out (fun h => h)).kp HKJ.out (fun h => h))
          have KX := hid (KV.out.trans HKJ.out (fun _ _ h => h))
          rw [HLAST.out]
          have HFA : Hid (fA K p n x = (!mks K x.k && bthb p n x.a x.n)) := rfl
          have HB2 := hid (HB1.out wr)
          cases hm : mks K x.k with
          | true =>
            rw [hm] at HFA
            have HNO := hid (HEN.out (by rw [HFA.out]; rfl))
            clear hm
            go_wp2_with fail
            go_roundw
            case rel => exact ⟨k + 1, by go_num, hlt, KX, HNO⟩
            case measure => simp [intOf]; omega
          | false =>
            rw [hm] at HFA
            clear hm
            cases hbt : bthb p n x.a x.n with
            | true =>
              rw [hbt] at HFA HB2
              have HYE := hid (HAT.out (by rw [HFA.out]; rfl))
              clear hbt
              go_wp2_with (first | (go_at_call 56; refine HB2.out.mono ?_; rintro e w9 ⟨rfl, rfl⟩) | (refine wpList_store_r rfl _ _ rfl _ rfl (e' := x) rfl R1.out ?_; intro w6 s6 k6; have S6 := hid s6; have K6 := hid k6; clear s6 k6))
              refine bodyPost_ret (results_cell_tmp2 Try.results38 _ _ _ rfl rfl (Rn.B.load S6.out)) rfl ?_
              rw [HYE.out]
              exact ⟨rfl, (KA.out.trans KX.out (fun _ _ h => h)).trans K6.out (fun i hi e => by have h2 : T = w.heap.size := HT.out; omega)⟩
            | false =>
              rw [hbt] at HFA HB2
              have HNO := hid (HEN.out (by rw [HFA.out]; rfl))
              clear hbt
              go_wp2_with (first | (go_at_call 56; refine HB2.out.mono ?_; rintro e w9 ⟨rfl, rfl⟩))
              go_roundw
              case rel => exact ⟨k + 1, by go_num, hlt, KX, HNO⟩
              case measure => simp [intOf]; omega
    · obtain rfl : k = n0 := by omega
      have hki : ¬ (k : Int) < (k : Int) := by omega
      have HNO := hid (ask_no (K := K) (p := p) (n := n) HSR.out HN.out.1 (fun j hj => HE.out j (by have := HL.out; omega)))
      have R1 := hid (R0.out.kp HK.out (fun h => h))
      go_wp2_with (first | (refine wpList_store_r rfl _ _ rfl _ rfl (e' := zRn) rfl R1.out ?_; intro w6 s6 k6; have S6 := hid s6; have K6 := hid k6; clear s6 k6))
      refine bodyPost_ret (results_cell_tmp2 Try.results38 _ _ _ rfl rfl (Rn.B.load S6.out)) rfl ?_
      rw [HNO.out]
      exact ⟨rfl, (KA.out.trans HK.out (fun _ _ h => h)).trans K6.out (fun i hi e => by have h2 : T = w.heap.size := HT.out; omega)⟩
end Go.Proofs.Ytopnfjgkgoeleaa

namespace Go.Proofs.Ytopnfjgkgoeleaa
open Go.RowKit
set_option linter.unusedVariables false
set_option linter.unusedSimpArgs false
/-- What First's loop holds. -/
structure FI (l : List Rn) (p n s f : Int) : Prop where
  lo : p ≤ f
  hi : f ≤ 72057594037927936
  no : ∀ t, p ≤ t → t < f → t % s = 0 → ¬ Fr l t n
theorem FI.zero {l : List Rn} {p n s : Int} (h : p ≤ 72057594037927936) : FI l p n s p := ⟨Int.le_refl _, h, fun t h1 h2 => by omega⟩
theorem FI.ge {l : List Rn} (hl : Srt l) {p n s f : Int} (h : FI l p n s f) (hs : 1 ≤ s) (hn : 1 ≤ n) (hp : 0 ≤ p) : mul f s ≤ fre l p n s := by
  have hf := fre_fst hl hs hn hp
  have h1 : f ≤ fre l p n s := Classical.byContradiction fun hc => h.no _ hf.1 (by omega) hf.2.1 hf.2.2.1
  exact mul_least hs (by have := h.lo; omega) h1 hf.2.1
theorem FI.found {l : List Rn} (hl : Srt l) {p n s f : Int} (h : FI l p n s f) (hs : 1 ≤ s) (hn : 1 ≤ n) (hp : 0 ≤ p) (hfr : Fr l (mul f s) n) : fre l p n s = mul f s := by
  have hm := mul_ge (p := f) hs (by have := h.lo; omega)
  have hlo := h.lo
  refine (fre_fst hl hs hn hp).uniq ⟨by omega, hm.2.2, hfr, fun t h1 h2 h3 => ?_⟩
  by_cases ht : t < f
  · exact h.no t h1 ht h3
  · have := mul_least (p := f) hs (by omega) (by omega) h3
    omega
theorem ovr_some2 {l : List Rn} {p n : Int} {x : Rn} (h : ovr l p n mz = some x) : x ∈ l ∧ p < x.e ∧ x.a < p + n := by
  unfold ovr at h
  split at h
  · cases h
  · have h1 := List.find?_some h
    have h2 := List.mem_of_find?_eq_some h
    simp only [Bool.and_eq_true, decide_eq_true_eq] at h1
    exact ⟨h2, h1.1, h1.2.1⟩
theorem FI.next {l : List Rn} (hl : Srt l) {p n s f : Int} (h : FI l p n s f) (hs : 1 ≤ s) (hp : 0 ≤ p) {x : Rn} (hx : x ∈ l) (h1 : mul f s < x.e) (h2 : x.a < mul f s + n) : FI l p n s x.e ∧ bey l f < bey l x.e := by
  have hm := mul_ge (p := f) hs (by have := h.lo; omega)
  have hlo := h.lo
  have hxm := hl.1 x hx
  refine ⟨⟨by omega, by unfold Mayr at hxm; unfold Rn.e; omega, fun t h3 h4 h5 hfr => ?_⟩, ?_⟩
  · by_cases ht : t < f
    · exact h.no t h3 ht h5 hfr
    · have h6 := mul_least (p := f) hs (by omega) (by omega) h5
      rcases hfr x hx with h7 | h7 <;> omega
  · obtain ⟨j, hj, hjx⟩ := List.getElem_of_mem hx
    rw [← gd hj] at hjx
    have b1 := bey_is hl f
    have b2 := bey_is hl x.e
    have c1 : bey l f ≤ j := Classical.byContradiction fun hc => by
      have := b1.2.1 j (by omega)
      rw [hjx] at this
      omega
    have c2 : j < bey l x.e := Classical.byContradiction fun hc => by
      have := b2.2.2 j (by omega) hj
      rw [hjx] at this
      omega
    omega
set_option maxRecDepth 100000 in
set_option maxHeartbeats 16000000 in
theorem rfirst_any (w : World) (q : Nat) (l : List Rn) (p n s : Int) (hp : 0 ≤ p ∧ p ≤ 72057594037927936) (hn : 1 ≤ n ∧ n ≤ 9223372036854775807) (hs : 1 ≤ s ∧ s ≤ 9223372036854775807) (h : RL q w l) :
    Calls Try.prog 39 #[.pointer (some ⟨q, 0, none⟩), .int .i64 p, .int .i64 n, .int .i64 s] w fun e w' => e = .returned (.tuple #[.int .i64 (fsV l p n s), .int .i64 (fsE l p n s)]) ∧ Kp (fun _ => False) w w' := by
  have HSR := hid h.srt
  have HLN := hid h.len
  have HR := hid h
  have HP := hid hp
  have HN := hid hn
  have HS := hid hs
  have HBAD : Hid (72057594037927936 < fre l p n s + n → fsV l p n s = 0 ∧ fsE l p n s = 4) := fun hb => by
    have hE : fsE l p n s = 4 := by unfold fsE; rw [if_pos ⟨hp.1, hp.2, hn.1, hs.1⟩, if_neg (by omega)]
    refine ⟨?_, hE⟩
    unfold fsV
    rw [if_neg (by rw [hE]; decide)]
  have HGOOD : Hid (fre l p n s + n ≤ 72057594037927936 → fsV l p n s = fre l p n s ∧ fsE l p n s = 0) := fun hb => by
    have hE : fsE l p n s = 0 := by unfold fsE; rw [if_pos ⟨hp.1, hp.2, hn.1, hs.1⟩, if_pos hb]
    refine ⟨?_, hE⟩
    unfold fsV
    rw [if_pos hE]
  have HF0 := hid (FI.zero (l := l) (n := n) (s := s) hp.2)
  clear h hp hn
  go_enter Try.func39, Try.ntmps39
  go_wp2_with fail
  go_loopw [1, 10] (fun f i wr => ∃ (k : Nat) (fv : Int), i = .int .i64 (k : Int) ∧ f = .int .i64 fv ∧ Hid (Kp (fun _ => False) w wr) ∧ Hid (FI l p n s fv) ∧ Hid (k ≤ bey l fv)) (fun f _ _ => l.length - bey l (intOf f))
  case atStart => exact ⟨0, p, rfl, rfl, Kp.refl _ _, HF0, Nat.zero_le _⟩
  case round =>
    obtain ⟨k, fv, rfl, rfl, HK, HF, HKB⟩ := hrel
    have hk6 : k ≤ 65536 := Nat.le_trans HKB.out (Nat.le_trans (bey_le l fv) HLN.out)
    have hf0 : 0 ≤ fv ∧ fv ≤ 72057594037927936 := ⟨by have := HF.out.lo; have := HP.out.1; omega, HF.out.hi⟩
    have HGE := hid (HF.out.ge HSR.out HS.out.1 HN.out.1 HP.out.1)
    have HFO := hid (HF.out.found HSR.out HS.out.1 HN.out.1 HP.out.1)
    have HNX : Hid (∀ x, x ∈ l → mul fv s < x.e → x.a < mul fv s + n → FI l p n s x.e ∧ bey l fv < bey l x.e) := fun x h1 h2 h3 => HF.out.next HSR.out HS.out.1 HP.out.1 h1 h2 h3
    have HMG := hid (mul_ge (p := fv) HS.out.1 hf0.1)
    have hr1 := Int.emod_nonneg fv (show s ≠ 0 by omega)
    have hr2 := Int.emod_lt_of_pos fv (show 0 < s by omega)
    have htm : Int.tmod fv s = fv % s := Int.tmod_eq_emod_of_nonneg hf0.1
    have hmu : mul fv s = if 0 < fv % s then fv - fv % s + s else fv := rfl
    have hs0 : ¬ s = 0 := by omega
    have HMU := hid hmu
    generalize fv % s = r at *
    clear hmu
    obtain ⟨f1, hf1⟩ : ∃ f1, f1 = mul fv s := ⟨_, rfl⟩
    rw [← hf1] at HGE HFO HNX HMG HMU
    clear hf1
    go_upto_if 18 with fail
    go_cut [1] from 15 to 33 (fun v wx => v = .int .i64 f1 ∧ f1 ≤ 72057594037927936 ∧ Hid (Kp (fun _ => False) w wx))
    case first =>
      by_cases h0 : 0 < r
      · have e0 : (r != 0) = true := by simp; omega
        have hm1 : f1 = fv - r + s := by rw [HMU.out, if_pos h0]
        have w1 : IntKind.i64.wrap (s - r) = s - r := by rw [IntKind.wrap_i64]; omega
        have w2 : IntKind.i64.wrap (72057594037927936 - fv) = 72057594037927936 - fv := by rw [IntKind.wrap_i64]; omega
        by_cases hb : s - r > 72057594037927936 - fv
        · have hb2 : 72057594037927936 - fv < s - r := hb
          have HB := hid (HBAD.out (by have := HGE.out; have := HN.out; omega))
          clear hm1
          go_wp2_with fail
          go_ret2
          rw [HB.out.1, HB.out.2]
          exact ⟨rfl, HK.out⟩
        · have hb2 : ¬ 72057594037927936 - fv < s - r := hb
          have w3 : IntKind.i64.wrap (IntKind.i64.wrap (fv + s) - r) = f1 := by rw [IntKind.wrap_i64, IntKind.wrap_i64]; omega
          have HM1 := hid hm1
          clear hm1
          go_wp2_with fail
          go_meet
          case rel => exact ⟨by have h9 := HM1.out; congr 1; first | (rw [← IntKind.wrap_i64', ← IntKind.wrap_i64']; exact w3) | (unfold wrap64; omega) | (simp only [wrap64]; omega), by have := HM1.out; omega, HK⟩
      · have e0 : (r != 0) = false := by simp; omega
        have hm1 : f1 = fv := by rw [HMU.out, if_neg h0]
        have HM1 := hid hm1
        clear hm1
        go_wp2_with fail
        go_meet
        case rel => exact ⟨by rw [HM1.out], by have := HM1.out; omega, HK⟩
    case rest =>
      obtain ⟨rfl, hf1, HKC⟩ := hcut
      have hf10 : 0 ≤ f1 := by have := HMG.out; omega
      have w2 : IntKind.i64.wrap (72057594037927936 - f1) = 72057594037927936 - f1 := by rw [IntKind.wrap_i64]; omega
      by_cases hb : 72057594037927936 - f1 < n
      · have HB := hid (HBAD.out (by have := HGE.out; omega))
        go_wp2_with fail
        go_ret2
        rw [HB.out.1, HB.out.2]
        exact ⟨rfl, HKC.out⟩
      · have HAS := hid (rask_any wc q l f1 n none 0 0 [] ⟨by omega, by omega⟩ ⟨by have := HN.out; omega, by omega⟩ rfl (by omega) (fun h => absurd h (by simp)) (HR.out.kp HKC.out))
        rw [mks_nil] at HAS
        go_wp2_with fail
        refine HAS.out.mono ?_
        rintro e w5 ⟨rfl, k5⟩
        have K5 := hid (HKC.out.trans k5 (fun _ _ h => h))
        clear k5 HAS
        cases ho : ovr l f1 n mz with
        | none =>
          have HFR := hid (HFO.out ((ovr_fr HN.out.1).1 ho))
          have HG := hid (HGOOD.out (by rw [HFR.out]; omega))
          clear ho
          go_wp2_with (first | (refine wpList_store_r rfl _ _ rfl _ rfl (e' := zRn) rfl (Rn.B.new w5 zRn) ?_; intro w6 s6 k6; have k7 := ((Kp.refl (fun _ => False) w5).alloc (.cells zRn.cs 46)).trans k6 (fun i hi e => by omega); have K6 := hid (K5.out.trans k7 (fun _ _ h => h)); clear s6 k6 k7))
          go_ret2
          rw [HG.out.1, HG.out.2, HFR.out]
          exact ⟨rfl, K6.out⟩
        | some x =>
          have HO := hid (ovr_some2 ho)
          have HN2 := hid (HNX.out x HO.out.1 HO.out.2.1 HO.out.2.2)
          have hxm := HSR.out.1 x HO.out.1
          unfold Mayr at hxm
          have w3 : IntKind.i64.wrap (x.a + x.n) = x.a + x.n := by rw [IntKind.wrap_i64]; omega
          have HXE : Hid (x.a + x.n = x.e) := rfl
          clear ho hxm
          go_wp2_with (first | (refine wpList_store_r rfl _ _ rfl _ rfl (e' := x) rfl (Rn.B.new w5 zRn) ?_; intro w6 s6 k6; have k7 := ((Kp.refl (fun _ => False) w5).alloc (.cells zRn.cs 46)).trans k6 (fun i hi e => by omega); have K6 := hid (K5.out.trans k7 (fun _ _ h => h)); have b1 : w6.cell? ⟨w5.heap.size, 1, none⟩ = some (.int .i64 x.a) := s6.cell 1; have b2 : w6.cell? ⟨w5.heap.size, 2, none⟩ = some (.int .i64 x.n) := s6.cell 2; clear s6 k6 k7))
          go_roundw
          case rel => exact ⟨k + 1, x.e, by go_num, by rw [← HXE.out], K6, HN2.out.1, by have := HN2.out.2; have := HKB.out; show _ ≤ _; omega⟩
          case measure =>
            have h1 := HN2.out.2
            have h2 := bey_le l x.e
            show l.length - bey l (x.a + x.n) < l.length - bey l fv
            rw [HXE.out]
            omega
end Go.Proofs.Ytopnfjgkgoeleaa

namespace Go.Proofs.Ytopnfjgkgoeleaa
open Go.RowKit
set_option linter.unusedVariables false
set_option linter.unusedSimpArgs false
theorem eql_r (h : Rn) (w : World) : (binOp .eql 46 (.agg #[.int .i64 h.k, .int .i64 h.a, .int .i64 h.n]) (.agg #[.int .i64 h.k, .int .i64 h.a, .int .i64 h.n])).run Try.prog w = .ok (.bool true) w := by
  obtain ⟨b0, b1, b2⟩ := h
  go_simp
  try simp
theorem allK_step {K : List Int} {j : Nat} (hj : j < K.length) : allK (K.take (j + 1)) = (allK (K.take j) && mkb (K.getD j 0)) := by
  have h1 : K.take (j + 1) = K.take j ++ [K.getD j 0] := by
    rw [List.take_add_one]
    simp [List.getD, List.getElem?_eq_getElem hj]
  unfold allK
  rw [h1, List.all_append]
  simp
set_option maxRecDepth 100000 in
set_option maxHeartbeats 16000000 in
theorem lask_any (W : World) (B rq : Nat) (ao : Option Addr) (c : Nat) (L : List Rn) (kd lv : Int) (sl : Value) (p n t : Int) (bo : Option Addr) (kn kc : Nat) (K : List Int) (hp : I6 p) (hn : I6 n) (hkn : kn = K.length) (hk4 : kn ≤ 40) (hkc : kn ≤ kc) (hS : Src .i64 W bo K) (hR : Rg W B ao c L) (hL : RL rq W L) :
    Calls Try.prog 37 #[.pointer (some ⟨B, 0, none⟩), .pointer (some ⟨rq, 0, none⟩), .agg #[.int .i64 kd, .int .i64 lv, sl, .int .i64 p, .int .i64 n, .int .i64 t, .slice bo kn kc]] W fun e w' => e = .returned (.bool true) ∧ Kp (fun _ => False) W w' := by
  obtain ⟨cs, hcs⟩ : ∃ cs : Array Value, cs = #[.int .i64 kd, .int .i64 lv, sl, .int .i64 p, .int .i64 n, .int .i64 t, .slice bo kn kc] := ⟨_, rfl⟩
  have ba : Below W.heap.size W (W.alloc (.cells #[.int .i64 kd, .int .i64 lv, sl, .int .i64 p, .int .i64 n, .int .i64 t, .slice bo kn kc] 34)) := (Below.refl _ W).alloc (Nat.le_refl _) _
  have ka : Kp (fun _ => False) W (W.alloc (.cells #[.int .i64 kd, .int .i64 lv, sl, .int .i64 p, .int .i64 n, .int .i64 t, .slice bo kn kc] 34)) := (Kp.refl _ _).alloc _
  have S5 := hid (St.new 34 W #[.int .i64 kd, .int .i64 lv, sl, .int .i64 p, .int .i64 n, .int .i64 t, .slice bo kn kc])
  have HAS := hid (ask_any _ B ao bo c kn kc L K p n (hR.below ba) hp hn hkn hkc (by omega) (hS.kp0 ka))
  have HSK := hid (hS.kp0 ka)
  have HRL := hid (hL.kp ka)
  have HKN := hid hkn
  have HP := hid hp
  have HN := hid hn
  have HNU := hid num_any
  have HEQ := hid eql_r
  have KA := hid ka
  have HL0 : Hid (lieb p n = (decide (0 ≤ p) && (decide (0 ≤ n) && decide (p + n ≤ 72057594037927936)))) := rfl
  clear ba ka hS hR hL hkn hp hn hcs cs
  go_enter Try.func37, Try.ntmps37
  go_wp2_with fail
  refine HAS.out.mono ?_
  clear HAS
  rintro e w1 ⟨rfl, b1⟩
  have K1 : Hid (Kp (fun _ => False) (W.alloc (.cells #[.int .i64 kd, .int .i64 lv, sl, .int .i64 p, .int .i64 n, .int .i64 t, .slice bo kn kc] 34)) w1) := Kp.of_below b1
  clear b1
  generalize W.alloc (.cells #[.int .i64 kd, .int .i64 lv, sl, .int .i64 p, .int .i64 n, .int .i64 t, .slice bo kn kc] 34) = X at *
  obtain ⟨T, hT⟩ : ∃ T, T = W.heap.size := ⟨_, rfl⟩
  rw [← hT] at S5 ⊢
  clear hT
  obtain ⟨x, hx⟩ : ∃ x, x = orz (askO L K p n) := ⟨_, rfl⟩
  obtain ⟨ok, hok⟩ : ∃ ok, ok = (askO L K p n).isSome := ⟨_, rfl⟩
  obtain ⟨er, her⟩ : ∃ er, er = askE K p n := ⟨_, rfl⟩
  rw [← hx, ← hok, ← her]
  have HX := hid hx
  have HOK := hid hok
  have HER := hid her
  clear hx hok her
  go_upto_region 2 with (first | (refine wpList_store_r rfl _ _ rfl _ rfl (e' := x) rfl (Rn.B.new w1 zRn) ?_; intro w2 s2 k2; have k3 := ((Kp.refl (fun _ => False) w1).alloc (.cells zRn.cs 46)).trans k2 (fun i hi e => by omega); have B2 := hid s2; have K2 := hid (K1.out.trans k3 (fun _ _ h => h)); clear s2 k2 k3))
  have S52 := hid (S5.out.kp K2.out (fun h => h))
  have c3 : w2.cell? ⟨T, 3, none⟩ = some (.int .i64 p) := S52.out.cell 3
  have c4 : w2.cell? ⟨T, 4, none⟩ = some (.int .i64 n) := S52.out.cell 4
  go_cut [10] from 26 to 46 (fun v wx => v = .bool (!lieb p n) ∧ wx = w2)
  case first =>
    by_cases h1 : p < 0
    · go_wp2_with fail
      go_meet
      case rel => exact ⟨by rw [HL0.out, show decide (0 ≤ p) = false by simp; omega]; rfl, rfl⟩
    · by_cases h2 : n < 0
      · go_wp2_with fail
        go_meet
        case rel => exact ⟨by rw [HL0.out, show decide (0 ≤ n) = false by simp; omega]; simp, rfl⟩
      · by_cases h3 : 72057594037927936 < p
        · go_wp2_with fail
          go_meet
          case rel => exact ⟨by rw [HL0.out, show decide (p + n ≤ 72057594037927936) = false by simp; omega]; simp, rfl⟩
        · have w5 : IntKind.i64.wrap (72057594037927936 - p) = 72057594037927936 - p := by rw [IntKind.wrap_i64]; omega
          by_cases h4 : 72057594037927936 - p < n
          · go_wp2_with fail
            go_meet
            case rel => exact ⟨by rw [HL0.out, show decide (p + n ≤ 72057594037927936) = false by simp; omega]; simp, rfl⟩
          · go_wp2_with fail
            go_meet
            case rel => exact ⟨by rw [HL0.out, show decide (p + n ≤ 72057594037927936) = true by simp; omega, show decide (0 ≤ p) = true by simp; omega, show decide (0 ≤ n) = true by simp; omega]; simp, rfl⟩
  case rest =>
  obtain ⟨rfl, rfl⟩ := hcut
  clear c3 c4
  go_wp2_with fail
  go_loopw [10, 11] (fun v i wr => ∃ (j : Nat), i = .int .i64 (j : Int) ∧ v = .bool (!(lieb p n && allK (K.take j))) ∧ j ≤ kn ∧ Hid (Kp (fun _ => False) wc wr)) (fun _ i _ => kn - (intOf i).toNat)
  case atStart => exact ⟨0, rfl, by simp [allK], Nat.zero_le _, Kp.refl _ _⟩
  case round =>
    obtain ⟨j, rfl, rfl, hj, HK⟩ := hrel
    have c6 : wr.cell? ⟨T, 6, none⟩ = some (.slice bo kn kc) := (S52.out.kp HK.out (fun h => h)).cell 6
    by_cases hjn : j < kn
    · have hjl : j < K.length := by have := HKN.out; omega
      obtain ⟨kb, ko, rfl, y0⟩ : ∃ b off, bo = some ⟨b, off, none⟩ ∧ wr.cell? ⟨b, off + j, none⟩ = some (.int .i64 (K.getD j 0)) := by
        obtain ⟨b, off, e, h⟩ := (HSK.out.kp0 (K2.out.trans HK.out (fun _ _ h => h))) (by omega)
        exact ⟨b, off, e, h j hjl⟩
      have HST : Hid ((lieb p n && allK (K.take (j + 1))) = ((lieb p n && allK (K.take j)) && mkb (K.getD j 0))) := by
        show _ = _
        rw [allK_step hjl, Bool.and_assoc]
      generalize K.getD j 0 = kv at *
      have hj0 : (0 : Int) ≤ (j : Int) := by omega
      have hji : (j : Int) < (kn : Int) := by omega
      have hmk : mkb kv = (decide (1 ≤ kv) && decide (kv ≤ 16)) := rfl
      generalize allK (K.take j) = A0 at *
      cases hb : (lieb p n && A0) with
      | false =>
        rw [hb, Bool.false_and] at HST
        clear hmk
        go_wp2_with fail
        go_roundw
        case rel => exact ⟨j + 1, by go_num, by rw [HST.out]; rfl, hjn, HK⟩
        case measure => simp [intOf]; omega
      | true =>
        rw [hb, Bool.true_and, hmk] at HST
        clear hmk
        by_cases h1 : kv < 1
        · rw [show decide (1 ≤ kv) = false by simp; omega, Bool.false_and] at HST
          go_wp2_with fail
          go_roundw
          case rel => exact ⟨j + 1, by go_num, by rw [HST.out]; rfl, hjn, HK⟩
          case measure => simp [intOf]; omega
        · by_cases h2 : 16 < kv
          · rw [show decide (kv ≤ 16) = false by simp; omega, Bool.and_false] at HST
            go_wp2_with fail
            go_roundw
            case rel => exact ⟨j + 1, by go_num, by rw [HST.out]; rfl, hjn, HK⟩
            case measure => simp [intOf]; omega
          · rw [show decide (1 ≤ kv) = true by simp; omega, show decide (kv ≤ 16) = true by simp; omega] at HST
            go_wp2_with fail
            go_roundw
            case rel => exact ⟨j + 1, by go_num, by rw [HST.out]; rfl, hjn, HK⟩
            case measure => simp [intOf]; omega
    · obtain rfl : j = kn := by omega
      have hji : ¬ (j : Int) < (j : Int) := by omega
      have HAB : Hid ((lieb p n && allK (K.take j)) = askB K p n) := by
        show _ = _
        unfold askB
        rw [List.take_of_length_le (by have := HKN.out; omega), Bool.and_comm]
      rw [HAB.out]
      have HKX := hid (K2.out.trans HK.out (fun _ _ h => h))
      have B2' := hid (B2.out.kp HK.out (fun h => h))
      have heq := HEQ.out x
      cases hab : askB K p n with
      | false =>
        have hx0 : x = zRn := by rw [HX.out]; unfold askO; rw [if_neg (by rw [hab]; decide)]; rfl
        have hok0 : ok = false := by rw [HOK.out]; unfold askO; rw [if_neg (by rw [hab]; decide)]; rfl
        have her0 : er = 2 := by rw [HER.out]; unfold askE; rw [if_neg (by rw [hab]; decide)]
        subst hx0 hok0 her0
        have b0 : wr.cell? ⟨w1.heap.size, 0, none⟩ = some (.int .i64 0) := B2'.out.cell 0
        have b1 : wr.cell? ⟨w1.heap.size, 1, none⟩ = some (.int .i64 0) := B2'.out.cell 1
        have b2 : wr.cell? ⟨w1.heap.size, 2, none⟩ = some (.int .i64 0) := B2'.out.cell 2
        have heq2 : ∀ U : World, (binOp .eql 46 (.agg #[.int .i64 0, .int .i64 0, .int .i64 0]) (.agg #[.int .i64 0, .int .i64 0, .int .i64 0])).run Try.prog U = .ok (.bool true) U := heq
        clear hab heq
        go_wp2_with (first | (go_at_call 22; refine (HNU.out _ _).mono ?_; rintro e1 w9 ⟨rfl, rfl⟩))
        go_ret
        exact ⟨rfl, KA.out.trans HKX.out (fun _ _ h => h)⟩
      | true =>
        have hlie : lieb p n = true := by
          unfold askB at hab
          rw [Bool.and_eq_true] at hab
          exact hab.2
        rw [HL0.out] at hlie
        simp only [Bool.and_eq_true, decide_eq_true_eq] at hlie
        have HO : Hid (askO L K p n = ovr L p n (mks K)) := by show askO L K p n = _; unfold askO; rw [if_pos hab]
        have her0 : er = 0 := by rw [HER.out]; unfold askE; rw [if_pos hab]
        subst her0
        have HRA := hid (rask_any wr rq L p n bo j kc K ⟨by omega, by omega⟩ ⟨by omega, by omega⟩ HKN.out (by omega) (HSK.out.kp0 HKX.out) (HRL.out.kp HKX.out))
        rw [← HO.out, ← HX.out, ← HOK.out] at HRA
        have c3 : wr.cell? ⟨T, 3, none⟩ = some (.int .i64 p) := (S52.out.kp HK.out (fun h => h)).cell 3
        have c4 : wr.cell? ⟨T, 4, none⟩ = some (.int .i64 n) := (S52.out.kp HK.out (fun h => h)).cell 4
        clear hab hlie HO
        go_wp2_with fail
        refine HRA.out.mono ?_
        rintro e w6 ⟨rfl, k6⟩
        have K6 := hid (HKX.out.trans k6 (fun _ _ h => h))
        have B6 := hid (B2'.out.kp k6 (fun h => h))
        clear k6 HRA c3 c4 c6
        go_wp2_with (first | (refine wpList_store_r rfl _ _ rfl _ rfl (e' := x) rfl (Rn.B.new w6 zRn) ?_; intro w7 s7 k7; have k8 := ((Kp.refl (fun _ => False) w6).alloc (.cells zRn.cs 46)).trans k7 (fun i hi e => by omega); have K7 := hid (K6.out.trans k8 (fun _ _ h => h)); have a0 : w7.cell? ⟨w6.heap.size, 0, none⟩ = some (.int .i64 x.k) := s7.cell 0; have a1 : w7.cell? ⟨w6.heap.size, 1, none⟩ = some (.int .i64 x.a) := s7.cell 1; have a2 : w7.cell? ⟨w6.heap.size, 2, none⟩ = some (.int .i64 x.n) := s7.cell 2; have d0 : w7.cell? ⟨w1.heap.size, 0, none⟩ = some (.int .i64 x.k) := (B6.out.kp k8 (fun h => h)).cell 0; have d1 : w7.cell? ⟨w1.heap.size, 1, none⟩ = some (.int .i64 x.a) := (B6.out.kp k8 (fun h => h)).cell 1; have d2 : w7.cell? ⟨w1.heap.size, 2, none⟩ = some (.int .i64 x.n) := (B6.out.kp k8 (fun h => h)).cell 2; clear s7 k7 k8) | (go_at_call 22; refine (HNU.out _ _).mono ?_; rintro e1 w9 ⟨rfl, rfl⟩))
        go_ret
        exact ⟨by simp, KA.out.trans K7.out (fun _ _ h => h)⟩
end Go.Proofs.Ytopnfjgkgoeleaa
