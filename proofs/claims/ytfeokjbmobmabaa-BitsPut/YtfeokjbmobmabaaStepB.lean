/- Contracts of the statements' own step(): Code, what is refused, and what is no call, beside the reference's bits. -/
import Derived.Test.YtfeokjbmobmabaaStepA
import Derived.Deep.RegionHeld3
namespace Go.Proofs.Ytfeokjbmobmabaa
open Go.RowKit


set_option maxRecDepth 100000 in
set_option maxHeartbeats 4000000 in
theorem step_code_ok (g gl : Nat) (sl u : Value) (N v x n : Nat) (aB : Option Addr) (nB cB : Nat) (w : World) (h : WL w g gl sl u N v) (hN : N ≤ 1000000) (hn : n ≤ 57) (hx : x < 2 ^ n) :
    Calls Try.prog 11 #[.pointer (some ⟨g, 0, none⟩), .pointer (some ⟨gl, 0, none⟩), .agg #[.int .i64 2, .int .i64 n, .int .u64 x, .slice aB nB cB]] w fun e w' => e = .returned (.bool true) ∧ Stp w w' g gl sl u (N + 2400) := by
  have hx64 : x < 18446744073709551616 := Nat.lt_of_lt_of_le hx (Nat.pow_le_pow_right (n := 2) (j := 64) (by omega) (by omega))
  have k0 : Ok' w (w.alloc (.cells #[.int .i64 2, .int .i64 n, .int .u64 x, .slice aB nB cB] 33)) := (Kp.refl _ w).alloc _
  have sA : St 33 (w.alloc (.cells #[.int .i64 2, .int .i64 n, .int .u64 x, .slice aB nB cB] 33)) w.heap.size #[.int .i64 2, .int .i64 n, .int .u64 x, .slice aB nB cB] := heap_alloc_new w _
  obtain ⟨ao, cap, hu, hnil⟩ := h.own.slice
  rw [dig_length] at hu
  subst hu
  have HW : Hid (WL w g gl sl (.slice ao N cap) N v) := h
  have HN : Hid (n ≤ 57) := hn
  have HPT : Hid (Calls Try.prog 18 #[.pointer (some ⟨g, 0, none⟩), .int .u64 x, .int .i64 n] (w.alloc (.cells #[.int .i64 2, .int .i64 n, .int .u64 x, .slice aB nB cB] 33)) fun e w' => e = .returned (.int .i64 0) ∧ Put' (w.alloc (.cells #[.int .i64 2, .int .i64 n, .int .u64 x, .slice aB nB cB] 33)) w' g sl (N + n) (v + turn x n * 2 ^ N)) := code_ok g sl x n N v _ (by omega) hn hx (h.ok k0).wr
  have HWD : Hid (∀ w, Calls Try.prog 37 #[.int .u64 x, .int .i64 n] w fun e w' => e = .returned (.bool true) ∧ w = w') := fun w => wideR_ok x n w hn hx
  obtain ⟨xs, hxs⟩ : ∃ xs, xs = dig 2 v N := ⟨_, rfl⟩
  obtain ⟨ys, hys⟩ : ∃ ys, ys = dig 2 (turn x n) n := ⟨_, rfl⟩
  have HX : Hid (xs.length = N) := by show _ = _; rw [hxs, dig_length]
  have HY0 : Hid (ys.length = n) := by show _ = _; rw [hys, dig_length]
  have B1 : Hid (([] : List Int).length + xs.length ≤ 140737488355328) := by show _ ≤ _; have := HX.out; simp; omega
  have B2 : Hid (([] ++ xs : List Int).length + ys.length ≤ 140737488355328) := by show _ ≤ _; have := HX.out; have := HY0.out; simp; omega
  have HD : Hid (dig 2 (v + turn x n * 2 ^ N) (N + n) = [] ++ xs ++ ys) := by show _ = _; rw [hxs, hys, List.nil_append]; exact dig_join 2 v (turn x n) N n (by omega) h.wr.1
  have HNIL : Hid (ao = none → cap = 0) := hnil
  have TT : Hid (∀ w2, Calls Try.prog 31 #[.int .u64 x, .int .i64 n] w2 fun e w' => e = .returned (.int .u64 (turn x n)) ∧ Below w2.heap.size w2 w') := fun w2 => by
    have := rturned_any x n w2 hx64
    rw [show min (n : Int).toNat 64 = n by omega] at this
    exact this
  have TB : Hid (∀ w2, Calls Try.prog 38 #[.int .u64 (turn x n), .int .i64 n] w2 fun e w' => ∃ y, e = .returned y ∧ OwnI w' w2.heap.size y ys ∧ Below w2.heap.size w2 w') := fun w2 => by
    have := bits_any (turn x n) n w2 (Nat.lt_of_lt_of_le (turn_lt x n) (Nat.pow_le_pow_right (n := 2) (j := 64) (by omega) (by omega))) (by omega)
    rw [hys]; exact this
  generalize turn x n = tx at *
  have hgb : w.heap.size ≠ g := by have := h.wr.2.1.lt; omega
  have hsb := h.slt
  have hglt := h.st.lt
  have hsrc : OwnI w 0 (.slice ao N cap) xs := by rw [hxs]; exact h.own
  have HSRC : Hid (OwnI w 0 (.slice ao N cap) xs) := hsrc
  have HSB : Hid (∀ c, sl.ownBlock = some c → c < w.heap.size) := hsb
  clear hsrc h hx hnil hxs hys hsb
  go_enter Try.func11, Try.ntmps11
  go_wp2_with fail
  refine HPT.out.mono ?_
  rintro e w1 ⟨rfl, hp⟩
  have hS : St 33 w1 w.heap.size #[.int .i64 2, .int .i64 n, .int .u64 x, .slice aB nB cB] := put_st sA hp hgb HSB.out
  have HS : Hid (St 33 w1 w.heap.size #[.int .i64 2, .int .i64 n, .int .u64 x, .slice aB nB cB]) := hS
  have HPUT : Hid (Put' w w1 g sl (N + n) (v + tx * 2 ^ N)) := hp.before k0
  have HG : Hid (St 26 w1 gl #[.slice ao N cap]) := (HW.out.put HPUT.out).1
  have c11 : w1.cell? ⟨w.heap.size, 1, none⟩ = some (.int .i64 n) := hS.cell 1
  have c12 : w1.cell? ⟨w.heap.size, 2, none⟩ = some (.int .u64 x) := hS.cell 2
  have HK0 : Hid (Ok' w1 (w1.alloc (.cells #[] 5)).drew) := ((Kp.refl _ w1).alloc _).drew
  have E0 : Hid (OwnI (w1.alloc (.cells #[] 5)).drew w1.heap.size (.slice (some ⟨w1.heap.size, 0, none⟩) 0 0) []) := (own_empty w1).drew
  have hsz : w.heap.size < w1.heap.size := hS.lt
  have HLT : Hid (gl < w1.heap.size) := by show _ < _; omega
  have HNE : Hid (¬ w.heap.size = gl) := by show ¬ _; omega
  have SR : Hid (Src (w1.alloc (.cells #[] 5)).drew ao xs) := put_src HW.out HPUT.out HX.out HSRC.out HK0.out
  clear hp hS sA k0 hsz hglt hgb HPT
  go_wp2_with fail
  refine (HWD.out _).mono ?_
  rintro e w' ⟨rfl, rfl⟩
  go_wp2_with fail
  clear c11 c12
  refine wp_region_held_drew (S := (fun w' => w'.cell? ⟨w.heap.size, 2, none⟩ = some (.int .u64 (x : Int)) ∧ w'.cell? ⟨w.heap.size, 1, none⟩ = some (.int .i64 (n : Int)))) (by kernel_rfl) ⟨HS.out.drew.cell 2, HS.out.drew.cell 1⟩ (fun h0 => ?_)
  refine wpAnyH_take (i := 0) (oi := { dst := some 66, op := Op.move (Operand.tmp 1), type := 35, pos := "law.go:53", after := #[], guard := none }) (v := ?vok0) rfl (by kernel_rfl) (by kernel_rfl) (by kernel_rfl) (fun _ _ _ h => h) (Or.inl ⟨by rfl, ?hyok0⟩) h0 ?restok0
  case hyok0 => (intro w hSw; (try dsimp only at hSw); go_simp; try with_reducible rfl)
  try simp only [Act.put, List.setIfInBounds_toArray, List.set_cons_zero, List.set_cons_succ]
  refine wpAnyH_take (i := 2) (oi := { dst := some 68, op := Op.move (Operand.tmp 1), type := 35, pos := "law.go:53", after := #[], guard := none }) (v := ?vok2) rfl (by kernel_rfl) (by kernel_rfl) (by kernel_rfl) (fun _ _ _ h => h) (Or.inl ⟨by rfl, ?hyok2⟩) h0 ?restok2
  case hyok2 => (intro w hSw; (try dsimp only at hSw); go_simp; try with_reducible rfl)
  try simp only [Act.put, List.setIfInBounds_toArray, List.set_cons_zero, List.set_cons_succ]
  refine wpAnyH_take (i := 3) (oi := { dst := some 69, op := Op.nilCheck (Operand.tmp 68), type := 0, pos := "law.go:53", after := #[{ on := 2, ground := Ground.data }], guard := none }) (v := ?vok3) rfl (by kernel_rfl) (by kernel_rfl) (by kernel_rfl) (fun _ _ _ h => h) (Or.inl ⟨by rfl, ?hyok3⟩) h0 ?restok3
  case hyok3 => (intro w hSw; (try dsimp only at hSw); go_simp; try with_reducible rfl)
  try simp only [Act.put, List.setIfInBounds_toArray, List.set_cons_zero, List.set_cons_succ]
  refine wpAnyH_take (i := 6) (oi := { dst := some 72, op := Op.fieldAddr 33 (Operand.tmp 5) 2, type := 0, pos := "law.go:53", after := #[], guard := none }) (v := ?vok6) rfl (by kernel_rfl) (by kernel_rfl) (by kernel_rfl) (fun _ _ _ h => h) (Or.inl ⟨by rfl, ?hyok6⟩) h0 ?restok6
  case hyok6 => (intro w hSw; (try dsimp only at hSw); go_simp; try with_reducible rfl)
  try simp only [Act.put, List.setIfInBounds_toArray, List.set_cons_zero, List.set_cons_succ]
  refine wpAnyH_take (i := 7) (oi := { dst := some 73, op := Op.load 27 (Operand.tmp 72), type := 27, pos := "law.go:53", after := #[{ on := 6, ground := Ground.data }], guard := none }) (v := ?vok7) rfl (by kernel_rfl) (by kernel_rfl) (by kernel_rfl) (fun _ _ _ h => h) (Or.inl ⟨by rfl, ?hyok7⟩) h0 ?restok7
  case hyok7 => (intro w hSw; (try dsimp only at hSw); go_simp; try with_reducible rfl)
  try simp only [Act.put, List.setIfInBounds_toArray, List.set_cons_zero, List.set_cons_succ]
  refine wpAnyH_take (i := 8) (oi := { dst := some 74, op := Op.fieldAddr 33 (Operand.tmp 5) 1, type := 0, pos := "law.go:53", after := #[], guard := none }) (v := ?vok8) rfl (by kernel_rfl) (by kernel_rfl) (by kernel_rfl) (fun _ _ _ h => h) (Or.inl ⟨by rfl, ?hyok8⟩) h0 ?restok8
  case hyok8 => (intro w hSw; (try dsimp only at hSw); go_simp; try with_reducible rfl)
  try simp only [Act.put, List.setIfInBounds_toArray, List.set_cons_zero, List.set_cons_succ]
  refine wpAnyH_take (i := 9) (oi := { dst := some 75, op := Op.load 3 (Operand.tmp 74), type := 3, pos := "law.go:53", after := #[{ on := 8, ground := Ground.data }], guard := none }) (v := ?vok9) rfl (by kernel_rfl) (by kernel_rfl) (by kernel_rfl) (fun _ _ _ h => h) (Or.inl ⟨by rfl, ?hyok9⟩) h0 ?restok9
  case hyok9 => (intro w hSw; (try dsimp only at hSw); go_simp; try with_reducible rfl)
  try simp only [Act.put, List.setIfInBounds_toArray, List.set_cons_zero, List.set_cons_succ]
  refine wpAnyH_take (i := 11) (oi := { dst := some 77, op := Op.fieldAddr 33 (Operand.tmp 5) 1, type := 0, pos := "law.go:53", after := #[], guard := none }) (v := ?vok11) rfl (by kernel_rfl) (by kernel_rfl) (by kernel_rfl) (fun _ _ _ h => h) (Or.inl ⟨by rfl, ?hyok11⟩) h0 ?restok11
  case hyok11 => (intro w hSw; (try dsimp only at hSw); go_simp; try with_reducible rfl)
  try simp only [Act.put, List.setIfInBounds_toArray, List.set_cons_zero, List.set_cons_succ]
  refine wpAnyH_take (i := 12) (oi := { dst := some 78, op := Op.load 3 (Operand.tmp 77), type := 3, pos := "law.go:53", after := #[{ on := 11, ground := Ground.data }], guard := none }) (v := ?vok12) rfl (by kernel_rfl) (by kernel_rfl) (by kernel_rfl) (fun _ _ _ h => h) (Or.inl ⟨by rfl, ?hyok12⟩) h0 ?restok12
  case hyok12 => (intro w hSw; (try dsimp only at hSw); go_simp; try with_reducible rfl)
  try simp only [Act.put, List.setIfInBounds_toArray, List.set_cons_zero, List.set_cons_succ]
  have hA0 : (w1.alloc (.cells #[] 5)).drew.cell? ⟨gl, 0, none⟩ = some (.slice ao N cap) := (HG.out.kp HK0.out (fun x => x)).cell 0
  have hA1 : w1.drew.cell? ⟨gl, 0, none⟩ = some (.slice ao N cap) := HG.out.drew.cell 0
  have hSA : St 33 (w1.alloc (.cells #[] 5)).drew w.heap.size _ := HS.out.kp HK0.out (fun x => x)
  refine wpAnyH_ready (rs := [1, 4]) (by kernel_rfl) (by simp) ?_
  refine AllReadyH.cons (o := { dst := some 67, op := Op.buildSlice 26 0 #[], type := 26, pos := "law.go:53", after := #[], guard := none }) rfl (fun K hK => ?_) (AllReadyH.cons (o := { dst := some 70, op := Op.load 26 (Operand.tmp 69), type := 26, pos := "law.go:53", after := #[{ on := 3, ground := Ground.data }], guard := none }) rfl (fun K hK => ?_) AllReadyH.nil)
  · go_simp
    refine hK.out _ _ ⟨hSA.cell 2, hSA.cell 1⟩ (fun h1 => ?_)
    clear hK K
    try simp only [Act.put, List.setIfInBounds_toArray, List.set_cons_zero, List.set_cons_succ]
    refine wpAnyH_ready (rs := [4]) (by kernel_rfl) (by simp) ?_
    refine AllReadyH.cons (o := { dst := some 70, op := Op.load 26 (Operand.tmp 69), type := 26, pos := "law.go:53", after := #[{ on := 3, ground := Ground.data }], guard := none }) rfl (fun K hK => ?_) AllReadyH.nil
    go_simp
    refine hK.out _ _ h1 (fun h1b => ?_)
    clear hK K
    try simp only [Act.put, List.setIfInBounds_toArray, List.set_cons_zero, List.set_cons_succ]
    refine wpAnyH_ready (rs := [5]) (by kernel_rfl) (by simp) ?_
    refine AllReadyH.cons (o := { dst := some 71, op := Op.call { callee := Callee.builtin Builtin.append, args := #[Operand.tmp 67, Operand.tmp 70], argTypes := #[26, 26] }, type := 26, pos := "law.go:53", after := #[{ on := 1, ground := Ground.data }, { on := 4, ground := Ground.data }], guard := none }) rfl (fun K hK => ?_) AllReadyH.nil
    refine step_append_i rfl (.tmp 67) (.tmp 70) rfl w1.heap.size (.slice (some ⟨w1.heap.size, 0, none⟩) 0 0) [] (by simp [Act.eval]) E0.out ao N cap xs (by simp [Act.eval]) HX.out HNIL.out SR.out B1.out (by simp) ?_
    intro v1 w2 o2 g2 n2
    have K2 : Hid (Ok' w1 w2) := kp_append HK0.out E0.out g2
    have o2' : Hid (OwnI w2 w1.heap.size v1 ([] ++ xs)) := o2
    clear o2 g2 n2
    have s2 := HS.out.kp K2.out (fun x => x)
    refine hK.out _ _ ⟨s2.cell 2, s2.cell 1⟩ (fun h2 => ?_)
    clear hK K
    try simp only [Act.put, List.setIfInBounds_toArray, List.set_cons_zero, List.set_cons_succ]
    clear s2
    refine wpAnyH_ready (rs := [10]) (by kernel_rfl) (by simp) ?_
    refine AllReadyH.cons (o := { dst := some 76, op := Op.call { callee := Callee.value (Operand.func 31), args := #[Operand.tmp 73, Operand.tmp 75], argTypes := #[27, 3] }, type := 27, pos := "law.go:53", after := #[{ on := 7, ground := Ground.data }, { on := 9, ground := Ground.data }, { on := 5, ground := Ground.chain }], guard := none }) rfl (fun K hK => ?_) AllReadyH.nil
    go_simp
    (go_at_call 31; refine (TT.out w2).mono ?_; rintro e wT ⟨rfl, bwT⟩)
    go_wp2_with fail
    have KwT : Hid (Ok' w1 wT) := K2.out.trans (Kp.of_below bwT) (fun _ _ x => x)
    have owT' : Hid (OwnI wT w1.heap.size v1 ([] ++ xs)) := o2'.out.below bwT
    have swT := HS.out.kp KwT.out (fun x => x)
    refine hK.out _ _ ⟨swT.cell 2, swT.cell 1⟩ (fun h3 => ?_)
    clear hK K
    try simp only [Act.put, List.setIfInBounds_toArray, List.set_cons_zero, List.set_cons_succ]
    clear swT bwT
    refine wpAnyH_ready (rs := [13]) (by kernel_rfl) (by simp) ?_
    refine AllReadyH.cons (o := { dst := some 79, op := Op.call { callee := Callee.value (Operand.func 38), args := #[Operand.tmp 76, Operand.tmp 78], argTypes := #[27, 3] }, type := 26, pos := "law.go:53", after := #[{ on := 10, ground := Ground.data }, { on := 12, ground := Ground.data }, { on := 10, ground := Ground.chain }], guard := none }) rfl (fun K hK => ?_) AllReadyH.nil
    go_simp
    (go_at_call 38; refine (TB.out wT).mono ?_; rintro e w3 ⟨y, rfl, oy, bw3⟩; obtain ⟨a3, m3, c3, rfl, HY, hn3, sy3⟩ := ys_form oy; clear oy)
    go_wp2_with fail
    have Kw3 : Hid (Ok' w1 w3) := KwT.out.trans (Kp.of_below bw3) (fun _ _ x => x)
    have ow3' : Hid (OwnI w3 w1.heap.size v1 ([] ++ xs)) := owT'.out.below bw3
    have sw3 := HS.out.kp Kw3.out (fun x => x)
    refine hK.out _ _ ⟨sw3.cell 2, sw3.cell 1⟩ (fun h3 => ?_)
    clear hK K
    try simp only [Act.put, List.setIfInBounds_toArray, List.set_cons_zero, List.set_cons_succ]
    clear sw3 bw3
    refine wpAnyH_ready (rs := [14]) (by kernel_rfl) (by simp) ?_
    refine AllReadyH.cons (o := { dst := some 80, op := Op.call { callee := Callee.builtin Builtin.append, args := #[Operand.tmp 71, Operand.tmp 79], argTypes := #[26, 26] }, type := 26, pos := "law.go:53", after := #[{ on := 5, ground := Ground.data }, { on := 13, ground := Ground.data }, { on := 13, ground := Ground.chain }], guard := none }) rfl (fun K hK => ?_) AllReadyH.nil
    refine step_append_i rfl (.tmp 71) (.tmp 79) rfl w1.heap.size v1 ([] ++ xs) (by simp [Act.eval]) ow3'.out a3 m3 c3 ys (by simp [Act.eval]) HY.out hn3 sy3 B2.out Kw3.out.size ?_
    intro v4 w4 o4 g4 n4
    obtain ⟨a4, m4, c4, rfl, HM4, hn4, sy4⟩ := ys_form o4
    clear hn4 sy4
    have K4 : Hid (Ok' w1 w4) := kp_append Kw3.out ow3'.out g4
    have o4' : Hid (OwnI w4 w1.heap.size (.slice a4 m4 c4) ([] ++ xs ++ ys)) := o4
    clear o4 g4 n4
    have s4 := HS.out.kp K4.out (fun x => x)
    refine hK.out _ _ ⟨s4.cell 2, s4.cell 1⟩ (fun h4 => ?_)
    clear hK K
    try simp only [Act.put, List.setIfInBounds_toArray, List.set_cons_zero, List.set_cons_succ]
    refine wpAnyH_take (i := 15) (oi := { dst := some 81, op := Op.nilCheck (Operand.tmp 66), type := 0, pos := "law.go:53", after := #[{ on := 0, ground := Ground.data }, { on := 0, ground := Ground.phase }, { on := 1, ground := Ground.phase }, { on := 2, ground := Ground.phase }, { on := 3, ground := Ground.phase }, { on := 4, ground := Ground.phase }, { on := 5, ground := Ground.phase }, { on := 6, ground := Ground.phase }, { on := 7, ground := Ground.phase }, { on := 8, ground := Ground.phase }, { on := 9, ground := Ground.phase }, { on := 10, ground := Ground.phase }, { on := 11, ground := Ground.phase }, { on := 12, ground := Ground.phase }, { on := 13, ground := Ground.phase }, { on := 14, ground := Ground.phase }], guard := none }) (v := ?vokx15) rfl (by kernel_rfl) (by kernel_rfl) (by kernel_rfl) (fun _ _ _ h => h) (Or.inl ⟨by rfl, ?hyokx15⟩) h4 ?restokx15
    case hyokx15 => (intro w hSw; (try dsimp only at hSw); go_simp; try with_reducible rfl)
    try simp only [Act.put, List.setIfInBounds_toArray, List.set_cons_zero, List.set_cons_succ]
    have t4 := HG.out.kp K4.out (fun x => x)
    have d4 : w4.cell? ⟨gl, 0, none⟩ = some (.slice ao N cap) := t4.cell 0
    have f4 : w4.frozen? ⟨gl, 0, none⟩ = false := t4.frozen 0
    refine wpAnyH_ready (rs := [16]) (by kernel_rfl) (by simp) ?_
    refine AllReadyH.cons (o := { dst := none, op := Op.store 26 (Operand.tmp 81) (Operand.tmp 80), type := 0, pos := "law.go:53", after := #[{ on := 15, ground := Ground.data }, { on := 14, ground := Ground.data }, { on := 14, ground := Ground.chain }, { on := 0, ground := Ground.phase }, { on := 1, ground := Ground.phase }, { on := 2, ground := Ground.phase }, { on := 3, ground := Ground.phase }, { on := 4, ground := Ground.phase }, { on := 5, ground := Ground.phase }, { on := 6, ground := Ground.phase }, { on := 7, ground := Ground.phase }, { on := 8, ground := Ground.phase }, { on := 9, ground := Ground.phase }, { on := 10, ground := Ground.phase }, { on := 11, ground := Ground.phase }, { on := 12, ground := Ground.phase }, { on := 13, ground := Ground.phase }, { on := 14, ground := Ground.phase }], guard := none }) rfl (fun K hK => ?_) AllReadyH.nil
    go_simp
    obtain ⟨kS, tS, oS⟩ := kp_store K4.out HG.out (.slice a4 m4 c4) o4'.out HLT.out
    have s5 := HS.out.kp kS HNE.out
    refine hK.out _ _ ⟨s5.cell 2, s5.cell 1⟩ (fun h5 => ?_)
    clear hK K
    try simp only [Act.put, List.setIfInBounds_toArray, List.set_cons_zero, List.set_cons_succ]
    refine wpAnyH_done (by kernel_rfl) ?_ _
    clear h4 h5 h2 h0 s4 s5 d4 f4 t4
    go_wp2_with (go_at_call 16; refine (num_any _ _).mono ?_; rintro e w' ⟨rfl, rfl⟩)
    go_ret
    exact ⟨rfl, stp_done HW.out HPUT.out kS tS (by rw [HD.out]; exact oS) (by have := HN.out; omega)⟩
  · go_simp
    refine hK.out _ _ h0 (fun h1 => ?_)
    clear hK K
    try simp only [Act.put, List.setIfInBounds_toArray, List.set_cons_zero, List.set_cons_succ]
    refine wpAnyH_ready (rs := [1]) (by kernel_rfl) (by simp) ?_
    refine AllReadyH.cons (o := { dst := some 67, op := Op.buildSlice 26 0 #[], type := 26, pos := "law.go:53", after := #[], guard := none }) rfl (fun K hK => ?_) AllReadyH.nil
    go_simp
    refine hK.out _ _ ⟨hSA.cell 2, hSA.cell 1⟩ (fun h1b => ?_)
    clear hK K
    try simp only [Act.put, List.setIfInBounds_toArray, List.set_cons_zero, List.set_cons_succ]
    refine wpAnyH_ready (rs := [5]) (by kernel_rfl) (by simp) ?_
    refine AllReadyH.cons (o := { dst := some 71, op := Op.call { callee := Callee.builtin Builtin.append, args := #[Operand.tmp 67, Operand.tmp 70], argTypes := #[26, 26] }, type := 26, pos := "law.go:53", after := #[{ on := 1, ground := Ground.data }, { on := 4, ground := Ground.data }], guard := none }) rfl (fun K hK => ?_) AllReadyH.nil
    refine step_append_i rfl (.tmp 67) (.tmp 70) rfl w1.heap.size (.slice (some ⟨w1.heap.size, 0, none⟩) 0 0) [] (by simp [Act.eval]) E0.out ao N cap xs (by simp [Act.eval]) HX.out HNIL.out SR.out B1.out (by simp) ?_
    intro v1 w2 o2 g2 n2
    have K2 : Hid (Ok' w1 w2) := kp_append HK0.out E0.out g2
    have o2' : Hid (OwnI w2 w1.heap.size v1 ([] ++ xs)) := o2
    clear o2 g2 n2
    have s2 := HS.out.kp K2.out (fun x => x)
    refine hK.out _ _ ⟨s2.cell 2, s2.cell 1⟩ (fun h2 => ?_)
    clear hK K
    try simp only [Act.put, List.setIfInBounds_toArray, List.set_cons_zero, List.set_cons_succ]
    clear s2
    refine wpAnyH_ready (rs := [10]) (by kernel_rfl) (by simp) ?_
    refine AllReadyH.cons (o := { dst := some 76, op := Op.call { callee := Callee.value (Operand.func 31), args := #[Operand.tmp 73, Operand.tmp 75], argTypes := #[27, 3] }, type := 27, pos := "law.go:53", after := #[{ on := 7, ground := Ground.data }, { on := 9, ground := Ground.data }, { on := 5, ground := Ground.chain }], guard := none }) rfl (fun K hK => ?_) AllReadyH.nil
    go_simp
    (go_at_call 31; refine (TT.out w2).mono ?_; rintro e wT ⟨rfl, bwT⟩)
    go_wp2_with fail
    have KwT : Hid (Ok' w1 wT) := K2.out.trans (Kp.of_below bwT) (fun _ _ x => x)
    have owT' : Hid (OwnI wT w1.heap.size v1 ([] ++ xs)) := o2'.out.below bwT
    have swT := HS.out.kp KwT.out (fun x => x)
    refine hK.out _ _ ⟨swT.cell 2, swT.cell 1⟩ (fun h3 => ?_)
    clear hK K
    try simp only [Act.put, List.setIfInBounds_toArray, List.set_cons_zero, List.set_cons_succ]
    clear swT bwT
    refine wpAnyH_ready (rs := [13]) (by kernel_rfl) (by simp) ?_
    refine AllReadyH.cons (o := { dst := some 79, op := Op.call { callee := Callee.value (Operand.func 38), args := #[Operand.tmp 76, Operand.tmp 78], argTypes := #[27, 3] }, type := 26, pos := "law.go:53", after := #[{ on := 10, ground := Ground.data }, { on := 12, ground := Ground.data }, { on := 10, ground := Ground.chain }], guard := none }) rfl (fun K hK => ?_) AllReadyH.nil
    go_simp
    (go_at_call 38; refine (TB.out wT).mono ?_; rintro e w3 ⟨y, rfl, oy, bw3⟩; obtain ⟨a3, m3, c3, rfl, HY, hn3, sy3⟩ := ys_form oy; clear oy)
    go_wp2_with fail
    have Kw3 : Hid (Ok' w1 w3) := KwT.out.trans (Kp.of_below bw3) (fun _ _ x => x)
    have ow3' : Hid (OwnI w3 w1.heap.size v1 ([] ++ xs)) := owT'.out.below bw3
    have sw3 := HS.out.kp Kw3.out (fun x => x)
    refine hK.out _ _ ⟨sw3.cell 2, sw3.cell 1⟩ (fun h3 => ?_)
    clear hK K
    try simp only [Act.put, List.setIfInBounds_toArray, List.set_cons_zero, List.set_cons_succ]
    clear sw3 bw3
    refine wpAnyH_ready (rs := [14]) (by kernel_rfl) (by simp) ?_
    refine AllReadyH.cons (o := { dst := some 80, op := Op.call { callee := Callee.builtin Builtin.append, args := #[Operand.tmp 71, Operand.tmp 79], argTypes := #[26, 26] }, type := 26, pos := "law.go:53", after := #[{ on := 5, ground := Ground.data }, { on := 13, ground := Ground.data }, { on := 13, ground := Ground.chain }], guard := none }) rfl (fun K hK => ?_) AllReadyH.nil
    refine step_append_i rfl (.tmp 71) (.tmp 79) rfl w1.heap.size v1 ([] ++ xs) (by simp [Act.eval]) ow3'.out a3 m3 c3 ys (by simp [Act.eval]) HY.out hn3 sy3 B2.out Kw3.out.size ?_
    intro v4 w4 o4 g4 n4
    obtain ⟨a4, m4, c4, rfl, HM4, hn4, sy4⟩ := ys_form o4
    clear hn4 sy4
    have K4 : Hid (Ok' w1 w4) := kp_append Kw3.out ow3'.out g4
    have o4' : Hid (OwnI w4 w1.heap.size (.slice a4 m4 c4) ([] ++ xs ++ ys)) := o4
    clear o4 g4 n4
    have s4 := HS.out.kp K4.out (fun x => x)
    refine hK.out _ _ ⟨s4.cell 2, s4.cell 1⟩ (fun h4 => ?_)
    clear hK K
    try simp only [Act.put, List.setIfInBounds_toArray, List.set_cons_zero, List.set_cons_succ]
    refine wpAnyH_take (i := 15) (oi := { dst := some 81, op := Op.nilCheck (Operand.tmp 66), type := 0, pos := "law.go:53", after := #[{ on := 0, ground := Ground.data }, { on := 0, ground := Ground.phase }, { on := 1, ground := Ground.phase }, { on := 2, ground := Ground.phase }, { on := 3, ground := Ground.phase }, { on := 4, ground := Ground.phase }, { on := 5, ground := Ground.phase }, { on := 6, ground := Ground.phase }, { on := 7, ground := Ground.phase }, { on := 8, ground := Ground.phase }, { on := 9, ground := Ground.phase }, { on := 10, ground := Ground.phase }, { on := 11, ground := Ground.phase }, { on := 12, ground := Ground.phase }, { on := 13, ground := Ground.phase }, { on := 14, ground := Ground.phase }], guard := none }) (v := ?voky15) rfl (by kernel_rfl) (by kernel_rfl) (by kernel_rfl) (fun _ _ _ h => h) (Or.inl ⟨by rfl, ?hyoky15⟩) h4 ?restoky15
    case hyoky15 => (intro w hSw; (try dsimp only at hSw); go_simp; try with_reducible rfl)
    try simp only [Act.put, List.setIfInBounds_toArray, List.set_cons_zero, List.set_cons_succ]
    have t4 := HG.out.kp K4.out (fun x => x)
    have d4 : w4.cell? ⟨gl, 0, none⟩ = some (.slice ao N cap) := t4.cell 0
    have f4 : w4.frozen? ⟨gl, 0, none⟩ = false := t4.frozen 0
    refine wpAnyH_ready (rs := [16]) (by kernel_rfl) (by simp) ?_
    refine AllReadyH.cons (o := { dst := none, op := Op.store 26 (Operand.tmp 81) (Operand.tmp 80), type := 0, pos := "law.go:53", after := #[{ on := 15, ground := Ground.data }, { on := 14, ground := Ground.data }, { on := 14, ground := Ground.chain }, { on := 0, ground := Ground.phase }, { on := 1, ground := Ground.phase }, { on := 2, ground := Ground.phase }, { on := 3, ground := Ground.phase }, { on := 4, ground := Ground.phase }, { on := 5, ground := Ground.phase }, { on := 6, ground := Ground.phase }, { on := 7, ground := Ground.phase }, { on := 8, ground := Ground.phase }, { on := 9, ground := Ground.phase }, { on := 10, ground := Ground.phase }, { on := 11, ground := Ground.phase }, { on := 12, ground := Ground.phase }, { on := 13, ground := Ground.phase }, { on := 14, ground := Ground.phase }], guard := none }) rfl (fun K hK => ?_) AllReadyH.nil
    go_simp
    obtain ⟨kS, tS, oS⟩ := kp_store K4.out HG.out (.slice a4 m4 c4) o4'.out HLT.out
    have s5 := HS.out.kp kS HNE.out
    refine hK.out _ _ ⟨s5.cell 2, s5.cell 1⟩ (fun h5 => ?_)
    clear hK K
    try simp only [Act.put, List.setIfInBounds_toArray, List.set_cons_zero, List.set_cons_succ]
    refine wpAnyH_done (by kernel_rfl) ?_ _
    clear h4 h5 h2 h0 s4 s5 d4 f4 t4
    go_wp2_with (go_at_call 16; refine (num_any _ _).mono ?_; rintro e w' ⟨rfl, rfl⟩)
    go_ret
    exact ⟨rfl, stp_done HW.out HPUT.out kS tS (by rw [HD.out]; exact oS) (by have := HN.out; omega)⟩

set_option maxRecDepth 100000 in
set_option maxHeartbeats 4000000 in
theorem step_put0_bad (g gl : Nat) (sl u : Value) (N v x : Nat) (n : Int) (aB : Option Addr) (nB cB : Nat) (w : World) (h : WL w g gl sl u N v) (hf : ¬ Fits x n) :
    Calls Try.prog 11 #[.pointer (some ⟨g, 0, none⟩), .pointer (some ⟨gl, 0, none⟩), .agg #[.int .i64 0, .int .i64 n, .int .u64 x, .slice aB nB cB]] w fun e w' => e = .returned (.bool true) ∧ Stp w w' g gl sl u (N + 2400) := by
  have k0 : Ok' w (w.alloc (.cells #[.int .i64 0, .int .i64 n, .int .u64 x, .slice aB nB cB] 33)) := (Kp.refl _ w).alloc _
  have HF : Hid (¬ Fits x n) := hf
  clear hf
  go_enter Try.func11, Try.ntmps11
  go_wp2_with fail
  refine (put_bad g x n _ HF.out).mono ?_
  rintro e w' ⟨rfl, rfl⟩
  go_wp2_with fail
  refine (wideR_bad x n _ HF.out).mono ?_
  rintro e w' ⟨rfl, rfl⟩
  go_wp2_with (go_at_call 16; refine (num_any _ _).mono ?_; rintro e w' ⟨rfl, rfl⟩)
  go_ret
  exact ⟨rfl, stp_same h k0 (by omega)⟩

set_option maxRecDepth 100000 in
set_option maxHeartbeats 4000000 in
theorem step_put1_bad (g gl : Nat) (sl u : Value) (N v x : Nat) (n : Int) (aB : Option Addr) (nB cB : Nat) (w : World) (h : WL w g gl sl u N v) (hf : ¬ Fits x n) :
    Calls Try.prog 11 #[.pointer (some ⟨g, 0, none⟩), .pointer (some ⟨gl, 0, none⟩), .agg #[.int .i64 1, .int .i64 n, .int .u64 x, .slice aB nB cB]] w fun e w' => e = .returned (.bool true) ∧ Stp w w' g gl sl u (N + 2400) := by
  have k0 : Ok' w (w.alloc (.cells #[.int .i64 1, .int .i64 n, .int .u64 x, .slice aB nB cB] 33)) := (Kp.refl _ w).alloc _
  have HF : Hid (¬ Fits x n) := hf
  clear hf
  go_enter Try.func11, Try.ntmps11
  go_wp2_with fail
  refine (put_bad g x n _ HF.out).mono ?_
  rintro e w' ⟨rfl, rfl⟩
  go_wp2_with fail
  refine (wideR_bad x n _ HF.out).mono ?_
  rintro e w' ⟨rfl, rfl⟩
  go_wp2_with (go_at_call 16; refine (num_any _ _).mono ?_; rintro e w' ⟨rfl, rfl⟩)
  go_ret
  exact ⟨rfl, stp_same h k0 (by omega)⟩

set_option maxRecDepth 100000 in
set_option maxHeartbeats 4000000 in
theorem step_code_bad (g gl : Nat) (sl u : Value) (N v x : Nat) (n : Int) (aB : Option Addr) (nB cB : Nat) (w : World) (h : WL w g gl sl u N v) (hf : ¬ Fits x n) :
    Calls Try.prog 11 #[.pointer (some ⟨g, 0, none⟩), .pointer (some ⟨gl, 0, none⟩), .agg #[.int .i64 2, .int .i64 n, .int .u64 x, .slice aB nB cB]] w fun e w' => e = .returned (.bool true) ∧ Stp w w' g gl sl u (N + 2400) := by
  have k0 : Ok' w (w.alloc (.cells #[.int .i64 2, .int .i64 n, .int .u64 x, .slice aB nB cB] 33)) := (Kp.refl _ w).alloc _
  have HF : Hid (¬ Fits x n) := hf
  clear hf
  go_enter Try.func11, Try.ntmps11
  go_wp2_with fail
  refine (code_bad g x n _ HF.out).mono ?_
  rintro e w' ⟨rfl, rfl⟩
  go_wp2_with fail
  refine (wideR_bad x n _ HF.out).mono ?_
  rintro e w' ⟨rfl, rfl⟩
  go_wp2_with (go_at_call 16; refine (num_any _ _).mono ?_; rintro e w' ⟨rfl, rfl⟩)
  go_ret
  exact ⟨rfl, stp_same h k0 (by omega)⟩

set_option maxRecDepth 100000 in
set_option maxHeartbeats 4000000 in
theorem step_none (g gl : Nat) (sl u : Value) (N v : Nat) (K n x : Int) (aB : Option Addr) (nB cB : Nat) (w : World) (h : WL w g gl sl u N v) (h0 : K ≠ 0) (h1 : K ≠ 1) (h2 : K ≠ 2) (h3 : K ≠ 3) (h4 : K ≠ 4) :
    Calls Try.prog 11 #[.pointer (some ⟨g, 0, none⟩), .pointer (some ⟨gl, 0, none⟩), .agg #[.int .i64 K, .int .i64 n, .int .u64 x, .slice aB nB cB]] w fun e w' => e = .returned (.bool true) ∧ Stp w w' g gl sl u (N + 2400) := by
  have k0 : Ok' w (w.alloc (.cells #[.int .i64 K, .int .i64 n, .int .u64 x, .slice aB nB cB] 33)) := (Kp.refl _ w).alloc _
  have e0 : (K == 0) = false := by simpa using h0
  have e1 : (K == 1) = false := by simpa using h1
  have e2 : (K == 2) = false := by simpa using h2
  have e3 : (K == 3) = false := by simpa using h3
  have e4 : (K == 4) = false := by simpa using h4
  go_enter Try.func11, Try.ntmps11
  go_wp2_with fail
  go_ret
  exact ⟨rfl, stp_same h k0 (by omega)⟩
end Go.Proofs.Ytfeokjbmobmabaa
