/- Contracts of the statements' own step(): Raw beside the reference's bits. -/
import Derived.Test.YtfeokjbmobmabaaStepC
import Derived.Deep.RegionHeld3
import Derived.Deep.CutRange
namespace Go.Proofs.Ytfeokjbmobmabaa
open Go.RowKit

theorem src_if {F : Nat → Prop} {w w' : World} {ao : Option Addr} {zs : List Int} (h : Src w ao zs) (k : Kp F w w') (hf : 0 < zs.length → ∀ b off, ao = some ⟨b, off, none⟩ → ¬ F b) : Src w' ao zs :=
  fun hp => (h.kp k (hf hp)) hp
theorem raw_join (v N : Nat) (B : List Int) (hv : v < 2 ^ N) : dig 2 (v + und 256 B * 2 ^ N) (N + 8 * B.length) = [] ++ dig 2 v N ++ dig 2 (und 256 B) (8 * B.length) := by
  rw [List.nil_append]; exact dig_join 2 v (und 256 B) N _ (by omega) hv
theorem Put'.keep {w w1 : World} {g : Nat} {sl : Value} {N' v' : Nat} (hp : Put' w w1 g sl N' v') : Kp (fun i => i = g ∨ sl.ownBlock = some i) w w1 := by
  obtain ⟨_, _, k, _⟩ := hp
  exact k

theorem own_empty1 (w : World) : OwnI ((w.alloc (.cells #[.int .u8 165] 5)).alloc (.cells #[] 5)).drew w.heap.size (.slice (some ⟨w.heap.size + 1, 0, none⟩) 0 0) [] := by
  have := own_empty (w.alloc (.cells #[.int .u8 165] 5))
  rw [show (w.alloc (.cells #[.int .u8 165] 5)).heap.size = w.heap.size + 1 by simp] at this
  exact (this.mono (by omega)).drew
theorem row_grown {w0 w1 : World} {H : Nat} (hH : w0.heap.size = H + 1) (g1 : (w0.alloc (.cells #[.int .u8 165] 5)).drew.grownBy w1 (Value.slice (some ⟨H, 0, none⟩) 0 0).ownBlock) : Rw 5 w1 (H + 1) [165] := by
  have r := Rw.new 5 w0 [165]
  rw [hH] at r
  have k : Kp (fun i => i = H) (w0.alloc (.cells #[.int .u8 165] 5)).drew w1 := Kp.of_grown g1 (fun i e => by simp [Value.ownBlock] at e; exact e.symm)
  have r2 : Rw 5 (w0.alloc (.cells #[.int .u8 165] 5)).drew (H + 1) [165] := r
  exact r2.kp k (by omega)
theorem row_grown2 {w0 w1 : World} (g1 : ((w0.alloc (.cells #[.int .u8 165] 5)).alloc (.cells #[] 5)).drew.grownBy w1 (Value.slice (some ⟨w0.heap.size + 1, 0, none⟩) 0 0).ownBlock) : Rw 5 w1 w0.heap.size [165] := by
  have r := (Rw.new 5 w0 [165]).kp ((Kp.refl (fun _ => False) _).alloc (.cells #[] 5)) (fun x => x)
  have k : Kp (fun i => i = w0.heap.size + 1) ((w0.alloc (.cells #[.int .u8 165] 5)).alloc (.cells #[] 5)).drew w1 := Kp.of_grown g1 (fun i e => by simp [Value.ownBlock] at e; exact e.symm)
  have r2 : Rw 5 ((w0.alloc (.cells #[.int .u8 165] 5)).alloc (.cells #[] 5)).drew w0.heap.size [165] := r
  exact r2.kp k (by omega)

set_option maxRecDepth 100000 in
set_option maxHeartbeats 4000000 in
theorem step_raw_odd (g gl : Nat) (sl u : Value) (N v : Nat) (n x : Int) (aB : Option Addr) (B : List Int) (cB : Nat) (w : World) (h : WL w g gl sl u N v) (hN : N ≤ 1000000) (h8 : N % 8 ≠ 0) (hB : B.length ≤ 300) (hb : Byt B) (hsrc : Src w aB B) (hnb : aB = none → cB = 0) (hfar : 0 < B.length → ∀ b off, aB = some ⟨b, off, none⟩ → b ≠ g ∧ b ≠ gl ∧ sl.ownBlock ≠ some b ∧ b < w.heap.size) :
    Calls Try.prog 11 #[.pointer (some ⟨g, 0, none⟩), .pointer (some ⟨gl, 0, none⟩), .agg #[.int .i64 4, .int .i64 n, .int .u64 x, .slice aB B.length cB]] w fun e w' => e = .returned (.bool true) ∧ Stp w w' g gl sl u (N + 2400) := by
  have k0 : Ok' w (w.alloc (.cells #[.int .i64 4, .int .i64 n, .int .u64 x, .slice aB B.length cB] 33)) := (Kp.refl _ w).alloc _
  have sA : St 33 (w.alloc (.cells #[.int .i64 4, .int .i64 n, .int .u64 x, .slice aB B.length cB] 33)) w.heap.size #[.int .i64 4, .int .i64 n, .int .u64 x, .slice aB B.length cB] := heap_alloc_new w _
  obtain ⟨ao, cap, hu, hnil⟩ := h.own.slice
  rw [dig_length] at hu
  subst hu
  have HW : Hid (WL w g gl sl (.slice ao N cap) N v) := h
  have HB : Hid (B.length ≤ 300 ∧ Byt B) := ⟨hB, hb⟩
  have HNB : Hid (aB = none → cB = 0) := hnb
  have HNIL : Hid (ao = none → cap = 0) := hnil
  have HF : Hid (0 < B.length → ∀ b off, aB = some ⟨b, off, none⟩ → b ≠ g ∧ b ≠ gl ∧ sl.ownBlock ≠ some b ∧ b < w.heap.size) := hfar
  have HS0 : Hid (St 33 (w.alloc (.cells #[.int .i64 4, .int .i64 n, .int .u64 x, .slice aB B.length cB] 33)) w.heap.size #[.int .i64 4, .int .i64 n, .int .u64 x, .slice aB B.length cB]) := sA
  have HK0 : Hid (Ok' w (w.alloc (.cells #[.int .i64 4, .int .i64 n, .int .u64 x, .slice aB B.length cB] 33))) := k0
  have HSRC : Hid (Src (w.alloc (.cells #[.int .i64 4, .int .i64 n, .int .u64 x, .slice aB B.length cB] 33)) aB B) := src_if hsrc k0 (fun _ _ _ _ x => x)
  have T1 : Hid (([] : List Int).length + B.length ≤ 140737488355328) := by show _ ≤ _; simp; omega
  have T2 : Hid (([] ++ B : List Int).length + ([165] : List Int).length ≤ 140737488355328) := by show _ ≤ _; simp; omega
  have hdm : ((N : Int)).tmod 8 = ((N % 8 : Nat) : Int) := by rw [Int.tmod_eq_emod_of_nonneg (by omega)]; omega
  have HDM : Hid (((N : Int)).tmod 8 = ((N % 8 : Nat) : Int)) := hdm
  clear h sA k0 hnb hnil hfar hsrc hdm hb
  go_enter Try.func11, Try.ntmps11
  go_wp2_with fail
  generalize w.alloc (.cells #[.int .i64 4, .int .i64 n, .int .u64 x, .slice aB B.length cB] 33) = w0 at HS0 HK0 HSRC ⊢
  go_cut [9] from 108 to 117 (fun mv wx => ∃ (G c : Nat) (tl : List Int), mv = .slice (some ⟨G, 0, none⟩) B.length c ∧ w0.heap.size ≤ G ∧ Rw 5 wx G (B ++ (165 :: tl)) ∧ Ok' w0 wx ∧ B.length + 1 ≤ c ∧ c ≤ maxLen)
  case first =>
    refine wp_region_held_drew (S := (fun w' => w'.cell? ⟨w.heap.size, 3, none⟩ = some (.slice aB B.length cB))) (by kernel_rfl) (HS0.out.drew.cell 3) (fun h0 => ?_)
    refine wpAnyH_take (i := 1) (oi := { dst := some 109, op := Op.fieldAddr 33 (Operand.tmp 5) 3, type := 0, pos := "law.go:61", after := #[], guard := none }) (v := ?vr1) rfl (by kernel_rfl) (by kernel_rfl) (by kernel_rfl) (fun _ _ _ h => h) (Or.inl ⟨by rfl, ?hyr1⟩) h0 ?restr1
    case hyr1 => (intro w hSw; (try dsimp only at hSw); go_simp; try with_reducible rfl)
    try simp only [Act.put, List.setIfInBounds_toArray, List.set_cons_zero, List.set_cons_succ]
    refine wpAnyH_take (i := 2) (oi := { dst := some 110, op := Op.load 26 (Operand.tmp 109), type := 26, pos := "law.go:61", after := #[{ on := 1, ground := Ground.data }], guard := none }) (v := ?vr2) rfl (by kernel_rfl) (by kernel_rfl) (by kernel_rfl) (fun _ _ _ h => h) (Or.inl ⟨by rfl, ?hyr2⟩) h0 ?restr2
    case hyr2 => (intro w hSw; (try dsimp only at hSw); go_simp; try with_reducible rfl)
    try simp only [Act.put, List.setIfInBounds_toArray, List.set_cons_zero, List.set_cons_succ]
    refine wpAnyH_take (i := 6) (oi := { dst := some 114, op := Op.fieldAddr 33 (Operand.tmp 5) 3, type := 0, pos := "law.go:61", after := #[], guard := none }) (v := ?vr6) rfl (by kernel_rfl) (by kernel_rfl) (by kernel_rfl) (fun _ _ _ h => h) (Or.inl ⟨by rfl, ?hyr6⟩) h0 ?restr6
    case hyr6 => (intro w hSw; (try dsimp only at hSw); go_simp; try with_reducible rfl)
    try simp only [Act.put, List.setIfInBounds_toArray, List.set_cons_zero, List.set_cons_succ]
    refine wpAnyH_take (i := 7) (oi := { dst := some 115, op := Op.load 26 (Operand.tmp 114), type := 26, pos := "law.go:61", after := #[{ on := 6, ground := Ground.data }], guard := none }) (v := ?vr7) rfl (by kernel_rfl) (by kernel_rfl) (by kernel_rfl) (fun _ _ _ h => h) (Or.inl ⟨by rfl, ?hyr7⟩) h0 ?restr7
    case hyr7 => (intro w hSw; (try dsimp only at hSw); go_simp; try with_reducible rfl)
    try simp only [Act.put, List.setIfInBounds_toArray, List.set_cons_zero, List.set_cons_succ]
    refine wpAnyH_take (i := 8) (oi := { dst := some 116, op := Op.call { callee := Callee.builtin Builtin.len, args := #[Operand.tmp 115], argTypes := #[26] }, type := 3, pos := "law.go:61", after := #[{ on := 7, ground := Ground.data }], guard := none }) (v := ?vr8) rfl (by kernel_rfl) (by kernel_rfl) (by kernel_rfl) (fun _ _ _ h => h) (Or.inl ⟨by rfl, ?hyr8⟩) h0 ?restr8
    case hyr8 => (intro w hSw; (try dsimp only at hSw); go_simp; try with_reducible rfl)
    try simp only [Act.put, List.setIfInBounds_toArray, List.set_cons_zero, List.set_cons_succ]
    have HKa : Hid (Ok' w0 (w0.alloc (.cells #[] 5)).drew) := ((Kp.refl _ w0).alloc _).drew
    have HKb : Hid (Ok' w0 ((w0.alloc (.cells #[] 5)).alloc (.cells #[.int .u8 165] 5)).drew) := (((Kp.refl _ w0).alloc _).alloc _).drew
    have HKc : Hid (Ok' w0 ((w0.alloc (.cells #[.int .u8 165] 5)).alloc (.cells #[] 5)).drew) := (((Kp.refl _ w0).alloc _).alloc _).drew
    have HKd : Hid (Ok' w0 (w0.alloc (.cells #[.int .u8 165] 5)).drew) := ((Kp.refl _ w0).alloc _).drew
    refine wpAnyH_ready (rs := [0, 4]) (by kernel_rfl) (by simp) ?_
    refine AllReadyH.cons (o := { dst := some 108, op := Op.buildSlice 26 0 #[], type := 26, pos := "law.go:61", after := #[], guard := none }) rfl (fun K hK => ?_) (AllReadyH.cons (o := { dst := some 112, op := Op.buildSlice 26 1 #[(0, Operand.const (Value.int IntKind.u8 165))], type := 26, pos := "law.go:61", after := #[], guard := none }) rfl (fun K hK => ?_) AllReadyH.nil)
    · go_simp
      refine hK.out _ _ ((HS0.out.kp HKa.out (fun x => x)).cell 3) (fun h1 => ?_)
      clear hK K
      try simp only [Act.put, List.setIfInBounds_toArray, List.set_cons_zero, List.set_cons_succ]
      refine wpAnyH_ready (rs := [3, 4]) (by kernel_rfl) (by simp) ?_
      refine AllReadyH.cons (o := { dst := some 111, op := Op.call { callee := Callee.builtin Builtin.append, args := #[Operand.tmp 108, Operand.tmp 110], argTypes := #[26, 26] }, type := 26, pos := "law.go:61", after := #[{ on := 0, ground := Ground.data }, { on := 2, ground := Ground.data }], guard := none }) rfl (fun K hK => ?_) (AllReadyH.cons (o := { dst := some 112, op := Op.buildSlice 26 1 #[(0, Operand.const (Value.int IntKind.u8 165))], type := 26, pos := "law.go:61", after := #[], guard := none }) rfl (fun K hK => ?_) AllReadyH.nil)
      · refine step_append_i rfl (.tmp 108) (.tmp 110) rfl w0.heap.size (.slice (some ⟨w0.heap.size, 0, none⟩) 0 0) [] (by simp [Act.eval]) (own_empty w0).drew aB B.length cB B (by simp [Act.eval]) rfl HNB.out (src_if HSRC.out HKa.out (fun _ _ _ _ x => x)) T1.out HKa.out.size ?_
        intro v1 w1 o1 g1 n1
        have K1 : Hid (Ok' w0 w1) := kp_append HKa.out (own_empty w0).drew g1
        have o1' : Hid (OwnI w1 w0.heap.size v1 ([] ++ B)) := o1
        clear o1 g1 n1
        refine hK.out _ _ ((HS0.out.kp K1.out (fun x => x)).cell 3) (fun h2 => ?_)
        clear hK K
        try simp only [Act.put, List.setIfInBounds_toArray, List.set_cons_zero, List.set_cons_succ]
        refine wpAnyH_ready (rs := [4]) (by kernel_rfl) (by simp) ?_
        refine AllReadyH.cons (o := { dst := some 112, op := Op.buildSlice 26 1 #[(0, Operand.const (Value.int IntKind.u8 165))], type := 26, pos := "law.go:61", after := #[], guard := none }) rfl (fun K hK => ?_) AllReadyH.nil
        go_simp
        refine hK.out _ _ ((HS0.out.kp (K1.out.alloc _) (fun x => x)).cell 3) (fun h3 => ?_)
        clear hK K
        try simp only [Act.put, List.setIfInBounds_toArray, List.set_cons_zero, List.set_cons_succ]
        refine wpAnyH_ready (rs := [5]) (by kernel_rfl) (by simp) ?_
        refine AllReadyH.cons (o := { dst := some 113, op := Op.call { callee := Callee.builtin Builtin.append, args := #[Operand.tmp 111, Operand.tmp 112], argTypes := #[26, 26] }, type := 26, pos := "law.go:61", after := #[{ on := 3, ground := Ground.data }, { on := 4, ground := Ground.data }, { on := 3, ground := Ground.chain }], guard := none }) rfl (fun K hK => ?_) AllReadyH.nil
        refine step_append_i rfl (.tmp 111) (.tmp 112) rfl w0.heap.size v1 ([] ++ B) (by simp [Act.eval]) (o1'.out.alloc _) (some ⟨w1.heap.size, 0, none⟩) 1 1 [165] (by simp [Act.eval]) rfl (fun e => by cases e) (row_src (tl := []) (Rw.new 5 w1 [165])) T2.out (by have := K1.out.size; simp; omega) ?_
        intro v2 w2 o2 g2 n2
        have K2 : Hid (Ok' w0 w2) := kp_append (K1.out.alloc _) (o1'.out.alloc _) g2
        obtain ⟨G, c, tl, rfl, hG, hrow, hc1, hc2⟩ := own_form2 o2
        have hc3 : (B.length : Int) ≤ (c : Int) := by omega
        have hc4 : (0 : Int) ≤ (B.length : Int) := by omega
        clear o2 g2 n2
        refine hK.out _ _ ((HS0.out.kp K2.out (fun x => x)).cell 3) (fun h5 => ?_)
        clear hK K
        try simp only [Act.put, List.setIfInBounds_toArray, List.set_cons_zero, List.set_cons_succ]
        refine wpAnyH_take (i := 9) (oi := { dst := some 117, op := Op.slice 26 (Operand.tmp 113) none (some (Operand.tmp 116)) none, type := 26, pos := "law.go:61", after := #[{ on := 5, ground := Ground.data }, { on := 8, ground := Ground.data }], guard := none }) (v := ?vra9) rfl (by kernel_rfl) (by kernel_rfl) (by kernel_rfl) (fun _ _ _ h => h) (Or.inl ⟨by rfl, ?hyra9⟩) h5 ?restra9
        case hyra9 => (intro w hSw; (try dsimp only at hSw); go_simp; try with_reducible rfl)
        try simp only [Act.put, List.setIfInBounds_toArray, List.set_cons_zero, List.set_cons_succ]
        refine wpAnyH_take (i := 10) (oi := { dst := some 9, op := Op.assign (Operand.tmp 117), type := 26, pos := "law.go:61", after := #[{ on := 9, ground := Ground.data }, { on := 5, ground := Ground.chain }, { on := 0, ground := Ground.phase }, { on := 1, ground := Ground.phase }, { on := 2, ground := Ground.phase }, { on := 3, ground := Ground.phase }, { on := 4, ground := Ground.phase }, { on := 5, ground := Ground.phase }, { on := 6, ground := Ground.phase }, { on := 7, ground := Ground.phase }, { on := 8, ground := Ground.phase }, { on := 9, ground := Ground.phase }], guard := none }) (v := ?vra10) rfl (by kernel_rfl) (by kernel_rfl) (by kernel_rfl) (fun _ _ _ h => h) (Or.inl ⟨by rfl, ?hyra10⟩) h5 ?restra10
        case hyra10 => (intro w hSw; (try dsimp only at hSw); go_simp; try with_reducible rfl)
        try simp only [Act.put, List.setIfInBounds_toArray, List.set_cons_zero, List.set_cons_succ]
        refine wpAnyH_done (by kernel_rfl) ?_ _
        clear h5
        go_wp2_with fail
        go_meet
        case rel => exact ⟨G, c, tl, rfl, hG, hrow, K2.out, hc1, hc2⟩
      · go_simp
        refine hK.out _ _ ((HS0.out.kp HKb.out (fun x => x)).cell 3) (fun h2 => ?_)
        clear hK K
        try simp only [Act.put, List.setIfInBounds_toArray, List.set_cons_zero, List.set_cons_succ]
        refine wpAnyH_ready (rs := [3]) (by kernel_rfl) (by simp) ?_
        refine AllReadyH.cons (o := { dst := some 111, op := Op.call { callee := Callee.builtin Builtin.append, args := #[Operand.tmp 108, Operand.tmp 110], argTypes := #[26, 26] }, type := 26, pos := "law.go:61", after := #[{ on := 0, ground := Ground.data }, { on := 2, ground := Ground.data }], guard := none }) rfl (fun K hK => ?_) AllReadyH.nil
        refine step_append_i rfl (.tmp 108) (.tmp 110) rfl w0.heap.size (.slice (some ⟨w0.heap.size, 0, none⟩) 0 0) [] (by simp [Act.eval]) ((own_empty w0).alloc _).drew aB B.length cB B (by simp [Act.eval]) rfl HNB.out (src_if HSRC.out HKb.out (fun _ _ _ _ x => x)) T1.out HKb.out.size ?_
        intro v1 w1 o1 g1 n1
        have K1 : Hid (Ok' w0 w1) := kp_append HKb.out ((own_empty w0).alloc _).drew g1
        have o1' : Hid (OwnI w1 w0.heap.size v1 ([] ++ B)) := o1
        have r1 : Hid (Rw 5 w1 (w0.heap.size + 1) [165]) := row_grown (w0 := w0.alloc (.cells #[] 5)) (by simp) g1
        clear o1 g1 n1
        refine hK.out _ _ ((HS0.out.kp K1.out (fun x => x)).cell 3) (fun h3 => ?_)
        clear hK K
        try simp only [Act.put, List.setIfInBounds_toArray, List.set_cons_zero, List.set_cons_succ]
        refine wpAnyH_ready (rs := [5]) (by kernel_rfl) (by simp) ?_
        refine AllReadyH.cons (o := { dst := some 113, op := Op.call { callee := Callee.builtin Builtin.append, args := #[Operand.tmp 111, Operand.tmp 112], argTypes := #[26, 26] }, type := 26, pos := "law.go:61", after := #[{ on := 3, ground := Ground.data }, { on := 4, ground := Ground.data }, { on := 3, ground := Ground.chain }], guard := none }) rfl (fun K hK => ?_) AllReadyH.nil
        refine step_append_i rfl (.tmp 111) (.tmp 112) rfl w0.heap.size v1 ([] ++ B) (by simp [Act.eval]) o1'.out (some ⟨w0.heap.size + 1, 0, none⟩) 1 1 [165] (by simp [Act.eval]) rfl (fun e => by cases e) (row_src (tl := []) r1.out) T2.out K1.out.size ?_
        intro v2 w2 o2 g2 n2
        have K2 : Hid (Ok' w0 w2) := kp_append K1.out o1'.out g2
        obtain ⟨G, c, tl, rfl, hG, hrow, hc1, hc2⟩ := own_form2 o2
        have hc3 : (B.length : Int) ≤ (c : Int) := by omega
        have hc4 : (0 : Int) ≤ (B.length : Int) := by omega
        clear o2 g2 n2
        refine hK.out _ _ ((HS0.out.kp K2.out (fun x => x)).cell 3) (fun h5 => ?_)
        clear hK K
        try simp only [Act.put, List.setIfInBounds_toArray, List.set_cons_zero, List.set_cons_succ]
        refine wpAnyH_take (i := 9) (oi := { dst := some 117, op := Op.slice 26 (Operand.tmp 113) none (some (Operand.tmp 116)) none, type := 26, pos := "law.go:61", after := #[{ on := 5, ground := Ground.data }, { on := 8, ground := Ground.data }], guard := none }) (v := ?vrb9) rfl (by kernel_rfl) (by kernel_rfl) (by kernel_rfl) (fun _ _ _ h => h) (Or.inl ⟨by rfl, ?hyrb9⟩) h5 ?restrb9
        case hyrb9 => (intro w hSw; (try dsimp only at hSw); go_simp; try with_reducible rfl)
        try simp only [Act.put, List.setIfInBounds_toArray, List.set_cons_zero, List.set_cons_succ]
        refine wpAnyH_take (i := 10) (oi := { dst := some 9, op := Op.assign (Operand.tmp 117), type := 26, pos := "law.go:61", after := #[{ on := 9, ground := Ground.data }, { on := 5, ground := Ground.chain }, { on := 0, ground := Ground.phase }, { on := 1, ground := Ground.phase }, { on := 2, ground := Ground.phase }, { on := 3, ground := Ground.phase }, { on := 4, ground := Ground.phase }, { on := 5, ground := Ground.phase }, { on := 6, ground := Ground.phase }, { on := 7, ground := Ground.phase }, { on := 8, ground := Ground.phase }, { on := 9, ground := Ground.phase }], guard := none }) (v := ?vrb10) rfl (by kernel_rfl) (by kernel_rfl) (by kernel_rfl) (fun _ _ _ h => h) (Or.inl ⟨by rfl, ?hyrb10⟩) h5 ?restrb10
        case hyrb10 => (intro w hSw; (try dsimp only at hSw); go_simp; try with_reducible rfl)
        try simp only [Act.put, List.setIfInBounds_toArray, List.set_cons_zero, List.set_cons_succ]
        refine wpAnyH_done (by kernel_rfl) ?_ _
        clear h5
        go_wp2_with fail
        go_meet
        case rel => exact ⟨G, c, tl, rfl, hG, hrow, K2.out, hc1, hc2⟩
    · go_simp
      refine hK.out _ _ ((HS0.out.kp HKd.out (fun x => x)).cell 3) (fun h1 => ?_)
      clear hK K
      try simp only [Act.put, List.setIfInBounds_toArray, List.set_cons_zero, List.set_cons_succ]
      refine wpAnyH_ready (rs := [0]) (by kernel_rfl) (by simp) ?_
      refine AllReadyH.cons (o := { dst := some 108, op := Op.buildSlice 26 0 #[], type := 26, pos := "law.go:61", after := #[], guard := none }) rfl (fun K hK => ?_) AllReadyH.nil
      go_simp
      refine hK.out _ _ ((HS0.out.kp HKc.out (fun x => x)).cell 3) (fun h2 => ?_)
      clear hK K
      try simp only [Act.put, List.setIfInBounds_toArray, List.set_cons_zero, List.set_cons_succ]
      refine wpAnyH_ready (rs := [3]) (by kernel_rfl) (by simp) ?_
      refine AllReadyH.cons (o := { dst := some 111, op := Op.call { callee := Callee.builtin Builtin.append, args := #[Operand.tmp 108, Operand.tmp 110], argTypes := #[26, 26] }, type := 26, pos := "law.go:61", after := #[{ on := 0, ground := Ground.data }, { on := 2, ground := Ground.data }], guard := none }) rfl (fun K hK => ?_) AllReadyH.nil
      refine step_append_i rfl (.tmp 108) (.tmp 110) rfl w0.heap.size (.slice (some ⟨w0.heap.size + 1, 0, none⟩) 0 0) [] (by simp [Act.eval]) (own_empty1 w0) aB B.length cB B (by simp [Act.eval]) rfl HNB.out (src_if HSRC.out HKc.out (fun _ _ _ _ x => x)) T1.out HKc.out.size ?_
      intro v1 w1 o1 g1 n1
      have K1 : Hid (Ok' w0 w1) := kp_append HKc.out (own_empty1 w0) g1
      have o1' : Hid (OwnI w1 w0.heap.size v1 ([] ++ B)) := o1
      have r1 : Hid (Rw 5 w1 w0.heap.size [165]) := row_grown2 g1
      clear o1 g1 n1
      refine hK.out _ _ ((HS0.out.kp K1.out (fun x => x)).cell 3) (fun h3 => ?_)
      clear hK K
      try simp only [Act.put, List.setIfInBounds_toArray, List.set_cons_zero, List.set_cons_succ]
      refine wpAnyH_ready (rs := [5]) (by kernel_rfl) (by simp) ?_
      refine AllReadyH.cons (o := { dst := some 113, op := Op.call { callee := Callee.builtin Builtin.append, args := #[Operand.tmp 111, Operand.tmp 112], argTypes := #[26, 26] }, type := 26, pos := "law.go:61", after := #[{ on := 3, ground := Ground.data }, { on := 4, ground := Ground.data }, { on := 3, ground := Ground.chain }], guard := none }) rfl (fun K hK => ?_) AllReadyH.nil
      refine step_append_i rfl (.tmp 111) (.tmp 112) rfl w0.heap.size v1 ([] ++ B) (by simp [Act.eval]) o1'.out (some ⟨w0.heap.size, 0, none⟩) 1 1 [165] (by simp [Act.eval]) rfl (fun e => by cases e) (row_src (tl := []) r1.out) T2.out K1.out.size ?_
      intro v2 w2 o2 g2 n2
      have K2 : Hid (Ok' w0 w2) := kp_append K1.out o1'.out g2
      obtain ⟨G, c, tl, rfl, hG, hrow, hc1, hc2⟩ := own_form2 o2
      have hc3 : (B.length : Int) ≤ (c : Int) := by omega
      have hc4 : (0 : Int) ≤ (B.length : Int) := by omega
      clear o2 g2 n2
      refine hK.out _ _ ((HS0.out.kp K2.out (fun x => x)).cell 3) (fun h5 => ?_)
      clear hK K
      try simp only [Act.put, List.setIfInBounds_toArray, List.set_cons_zero, List.set_cons_succ]
      refine wpAnyH_take (i := 9) (oi := { dst := some 117, op := Op.slice 26 (Operand.tmp 113) none (some (Operand.tmp 116)) none, type := 26, pos := "law.go:61", after := #[{ on := 5, ground := Ground.data }, { on := 8, ground := Ground.data }], guard := none }) (v := ?vrc9) rfl (by kernel_rfl) (by kernel_rfl) (by kernel_rfl) (fun _ _ _ h => h) (Or.inl ⟨by rfl, ?hyrc9⟩) h5 ?restrc9
      case hyrc9 => (intro w hSw; (try dsimp only at hSw); go_simp; try with_reducible rfl)
      try simp only [Act.put, List.setIfInBounds_toArray, List.set_cons_zero, List.set_cons_succ]
      refine wpAnyH_take (i := 10) (oi := { dst := some 9, op := Op.assign (Operand.tmp 117), type := 26, pos := "law.go:61", after := #[{ on := 9, ground := Ground.data }, { on := 5, ground := Ground.chain }, { on := 0, ground := Ground.phase }, { on := 1, ground := Ground.phase }, { on := 2, ground := Ground.phase }, { on := 3, ground := Ground.phase }, { on := 4, ground := Ground.phase }, { on := 5, ground := Ground.phase }, { on := 6, ground := Ground.phase }, { on := 7, ground := Ground.phase }, { on := 8, ground := Ground.phase }, { on := 9, ground := Ground.phase }], guard := none }) (v := ?vrc10) rfl (by kernel_rfl) (by kernel_rfl) (by kernel_rfl) (fun _ _ _ h => h) (Or.inl ⟨by rfl, ?hyrc10⟩) h5 ?restrc10
      case hyrc10 => (intro w hSw; (try dsimp only at hSw); go_simp; try with_reducible rfl)
      try simp only [Act.put, List.setIfInBounds_toArray, List.set_cons_zero, List.set_cons_succ]
      refine wpAnyH_done (by kernel_rfl) ?_ _
      clear h5
      go_wp2_with fail
      go_meet
      case rel => exact ⟨G, c, tl, rfl, hG, hrow, K2.out, hc1, hc2⟩
  case rest =>
    clear T1 T2
    obtain ⟨G, c, tl, rfl, hG, hrow, km, hc1, hc2⟩ := hcut
    have HKM : Hid (Ok' w wc) := HK0.out.trans km (fun _ _ x => x)
    have hS : St 33 wc w.heap.size #[.int .i64 4, .int .i64 n, .int .u64 x, .slice aB B.length cB] := HS0.out.kp km (fun x => x)
    have HSC : Hid (Src wc aB B) := src_if HSRC.out km (fun _ _ _ _ x => x)
    have HG1 : Hid (w.heap.size < G ∧ G < wc.heap.size) := ⟨Nat.lt_of_lt_of_le HS0.out.lt hG, hrow.lt⟩
    clear HS0 HSRC hG km
    go_wp2_with fail
    refine (rawW_odd g sl N v (some ⟨G, 0, none⟩) c B.length wc h8 (HW.out.wr.ok HKM.out)).mono ?_
    rintro e w1 ⟨rfl, rfl⟩
    have hrow1 := hrow
    have hS1 := hS
    have HSC1 := HSC
    have HG26 : Hid (St 26 wc gl #[.slice ao N cap]) := (HW.out.ok HKM.out).st
    clear hrow hS
    have HS1 : Hid (St 33 wc w.heap.size #[.int .i64 4, .int .i64 n, .int .u64 x, .slice aB B.length cB]) := hS1
    have HR1 : Hid (Rw 5 wc G (B ++ (165 :: tl))) := hrow1
    have hrow1d : Rw 5 wc.drew G (B ++ (165 :: tl)) := hrow1
    have hsrc1d : Src wc.drew aB B := HSC1.out
    have h165 : wc.cell? ⟨G, B.length, none⟩ = some (.int .u8 165) := by
      rw [hrow1.cell B.length (by simp)]
      simp [List.getD]
    have c13 : wc.cell? ⟨w.heap.size, 3, none⟩ = some (.slice aB B.length cB) := hS1.cell 3
    have s1 := And.intro c13 h165
    have hBw : IntKind.i64.wrap ((B.length : Int) + 1) = (B.length : Int) + 1 := by rw [show ((B.length : Int) + 1) = ((B.length + 1 : Nat) : Int) by omega]; exact wrap_nat _ (by omega)
    have hc5 : (B.length : Int) + 1 ≤ (c : Int) := by omega
    have hc6 : (B.length : Int) < (B.length : Int) + 1 := by omega
    clear hrow1 hS1
    go_wp2_with fail
    have s1d : wc.drew.cell? ⟨w.heap.size, 3, none⟩ = some (.slice aB B.length cB) ∧ wc.drew.cell? ⟨G, B.length, none⟩ = some (.int .u8 165) := s1
    refine wp_region_held_drew (S := (fun w' => w'.cell? ⟨w.heap.size, 3, none⟩ = some (.slice aB B.length cB) ∧ w'.cell? ⟨G, B.length, none⟩ = some (.int .u8 165))) (by kernel_rfl) s1d (fun h0 => ?_)
    refine wpAnyH_take (i := 0) (oi := { dst := some 121, op := Op.move (Operand.tmp 9), type := 26, pos := "law.go:63", after := #[], guard := none }) (v := ?vs0) rfl (by kernel_rfl) (by kernel_rfl) (by kernel_rfl) (fun _ _ _ h => h) (Or.inl ⟨by rfl, ?hys0⟩) h0 ?rests0
    case hys0 => (intro w hSw; (try dsimp only at hSw); go_simp; try with_reducible rfl)
    try simp only [Act.put, List.setIfInBounds_toArray, List.set_cons_zero, List.set_cons_succ]
    refine wpAnyH_take (i := 1) (oi := { dst := some 122, op := Op.fieldAddr 33 (Operand.tmp 5) 3, type := 0, pos := "law.go:63", after := #[], guard := none }) (v := ?vs1) rfl (by kernel_rfl) (by kernel_rfl) (by kernel_rfl) (fun _ _ _ h => h) (Or.inl ⟨by rfl, ?hys1⟩) h0 ?rests1
    case hys1 => (intro w hSw; (try dsimp only at hSw); go_simp; try with_reducible rfl)
    try simp only [Act.put, List.setIfInBounds_toArray, List.set_cons_zero, List.set_cons_succ]
    refine wpAnyH_take (i := 2) (oi := { dst := some 123, op := Op.load 26 (Operand.tmp 122), type := 26, pos := "law.go:63", after := #[{ on := 1, ground := Ground.data }], guard := none }) (v := ?vs2) rfl (by kernel_rfl) (by kernel_rfl) (by kernel_rfl) (fun _ _ _ h => h) (Or.inl ⟨by rfl, ?hys2⟩) h0 ?rests2
    case hys2 => (intro w hSw; (try dsimp only at hSw); go_simp; try with_reducible rfl)
    try simp only [Act.put, List.setIfInBounds_toArray, List.set_cons_zero, List.set_cons_succ]
    refine wpAnyH_ready (rs := [3]) (by kernel_rfl) (by simp) ?_
    refine AllReadyH.cons (o := { dst := some 124, op := Op.call { callee := Callee.value (Operand.func 13), args := #[Operand.tmp 121, Operand.tmp 123], argTypes := #[26, 26] }, type := 4, pos := "law.go:63", after := #[{ on := 0, ground := Ground.data }, { on := 2, ground := Ground.data }], guard := none }) rfl (fun K hK => ?_) AllReadyH.nil
    go_simp
    (go_at_call 13; refine (same_eq (some ⟨G, 0, none⟩) aB c cB B.length B _ rfl (row_src hrow1d) hsrc1d).mono ?_; rintro e w' ⟨rfl, rfl⟩)
    go_wp2_with fail
    refine hK.out _ _ h0 (fun h1 => ?_)
    clear hK K
    try simp only [Act.put, List.setIfInBounds_toArray, List.set_cons_zero, List.set_cons_succ]
    refine wpAnyH_take (i := 4) (oi := { dst := some 125, op := Op.move (Operand.tmp 124), type := 4, pos := "law.go:63", after := #[{ on := 3, ground := Ground.data }, { on := 3, ground := Ground.chain }], guard := none }) (v := ?vs4) rfl (by kernel_rfl) (by kernel_rfl) (by kernel_rfl) (fun _ _ _ h => h) (Or.inl ⟨by rfl, ?hys4⟩) h0 ?rests4
    case hys4 => (intro w hSw; (try dsimp only at hSw); go_simp; try with_reducible rfl)
    try simp only [Act.put, List.setIfInBounds_toArray, List.set_cons_zero, List.set_cons_succ]
    refine wpAnyH_take (i := 5) (oi := { dst := some 126, op := Op.move (Operand.tmp 9), type := 26, pos := "law.go:63", after := #[{ on := 4, ground := Ground.guard }], guard := some (4, true) }) (v := ?vs5) rfl (by kernel_rfl) (by kernel_rfl) (by kernel_rfl) (fun _ _ _ h => h) (Or.inl ⟨by rfl, ?hys5⟩) h0 ?rests5
    case hys5 => (intro w hSw; (try dsimp only at hSw); go_simp; try with_reducible rfl)
    try simp only [Act.put, List.setIfInBounds_toArray, List.set_cons_zero, List.set_cons_succ]
    refine wpAnyH_take (i := 6) (oi := { dst := some 127, op := Op.fieldAddr 33 (Operand.tmp 5) 3, type := 0, pos := "law.go:63", after := #[{ on := 4, ground := Ground.guard }], guard := some (4, true) }) (v := ?vs6) rfl (by kernel_rfl) (by kernel_rfl) (by kernel_rfl) (fun _ _ _ h => h) (Or.inl ⟨by rfl, ?hys6⟩) h0 ?rests6
    case hys6 => (intro w hSw; (try dsimp only at hSw); go_simp; try with_reducible rfl)
    try simp only [Act.put, List.setIfInBounds_toArray, List.set_cons_zero, List.set_cons_succ]
    refine wpAnyH_take (i := 7) (oi := { dst := some 128, op := Op.load 26 (Operand.tmp 127), type := 26, pos := "law.go:63", after := #[{ on := 6, ground := Ground.data }, { on := 4, ground := Ground.guard }], guard := some (4, true) }) (v := ?vs7) rfl (by kernel_rfl) (by kernel_rfl) (by kernel_rfl) (fun _ _ _ h => h) (Or.inl ⟨by rfl, ?hys7⟩) h0 ?rests7
    case hys7 => (intro w hSw; (try dsimp only at hSw); go_simp; try with_reducible rfl)
    try simp only [Act.put, List.setIfInBounds_toArray, List.set_cons_zero, List.set_cons_succ]
    refine wpAnyH_take (i := 8) (oi := { dst := some 129, op := Op.call { callee := Callee.builtin Builtin.len, args := #[Operand.tmp 128], argTypes := #[26] }, type := 3, pos := "law.go:63", after := #[{ on := 7, ground := Ground.data }, { on := 4, ground := Ground.guard }], guard := some (4, true) }) (v := ?vs8) rfl (by kernel_rfl) (by kernel_rfl) (by kernel_rfl) (fun _ _ _ h => h) (Or.inl ⟨by rfl, ?hys8⟩) h0 ?rests8
    case hys8 => (intro w hSw; (try dsimp only at hSw); go_simp; try with_reducible rfl)
    try simp only [Act.put, List.setIfInBounds_toArray, List.set_cons_zero, List.set_cons_succ]
    refine wpAnyH_take (i := 9) (oi := { dst := some 130, op := Op.binOp BinOp.add 3 (Operand.tmp 129) (Operand.const (Value.int IntKind.i64 1)) 3, type := 3, pos := "law.go:63", after := #[{ on := 8, ground := Ground.data }, { on := 4, ground := Ground.guard }], guard := some (4, true) }) (v := ?vs9) rfl (by kernel_rfl) (by kernel_rfl) (by kernel_rfl) (fun _ _ _ h => h) (Or.inl ⟨by rfl, ?hys9⟩) h0 ?rests9
    case hys9 => (intro w hSw; (try dsimp only at hSw); go_simp; try with_reducible rfl)
    try simp only [Act.put, List.setIfInBounds_toArray, List.set_cons_zero, List.set_cons_succ]
    refine wpAnyH_take (i := 11) (oi := { dst := some 132, op := Op.fieldAddr 33 (Operand.tmp 5) 3, type := 0, pos := "law.go:63", after := #[{ on := 4, ground := Ground.guard }], guard := some (4, true) }) (v := ?vs11) rfl (by kernel_rfl) (by kernel_rfl) (by kernel_rfl) (fun _ _ _ h => h) (Or.inl ⟨by rfl, ?hys11⟩) h0 ?rests11
    case hys11 => (intro w hSw; (try dsimp only at hSw); go_simp; try with_reducible rfl)
    try simp only [Act.put, List.setIfInBounds_toArray, List.set_cons_zero, List.set_cons_succ]
    refine wpAnyH_take (i := 12) (oi := { dst := some 133, op := Op.load 26 (Operand.tmp 132), type := 26, pos := "law.go:63", after := #[{ on := 11, ground := Ground.data }, { on := 4, ground := Ground.guard }], guard := some (4, true) }) (v := ?vs12) rfl (by kernel_rfl) (by kernel_rfl) (by kernel_rfl) (fun _ _ _ h => h) (Or.inl ⟨by rfl, ?hys12⟩) h0 ?rests12
    case hys12 => (intro w hSw; (try dsimp only at hSw); go_simp; try with_reducible rfl)
    try simp only [Act.put, List.setIfInBounds_toArray, List.set_cons_zero, List.set_cons_succ]
    refine wpAnyH_take (i := 13) (oi := { dst := some 134, op := Op.call { callee := Callee.builtin Builtin.len, args := #[Operand.tmp 133], argTypes := #[26] }, type := 3, pos := "law.go:63", after := #[{ on := 12, ground := Ground.data }, { on := 4, ground := Ground.guard }], guard := some (4, true) }) (v := ?vs13) rfl (by kernel_rfl) (by kernel_rfl) (by kernel_rfl) (fun _ _ _ h => h) (Or.inl ⟨by rfl, ?hys13⟩) h0 ?rests13
    case hys13 => (intro w hSw; (try dsimp only at hSw); go_simp; try with_reducible rfl)
    try simp only [Act.put, List.setIfInBounds_toArray, List.set_cons_zero, List.set_cons_succ]
    refine wpAnyH_ready (rs := [10]) (by kernel_rfl) (by simp) ?_
    refine AllReadyH.cons (o := { dst := some 131, op := Op.slice 26 (Operand.tmp 126) none (some (Operand.tmp 130)) none, type := 26, pos := "law.go:63", after := #[{ on := 5, ground := Ground.data }, { on := 9, ground := Ground.data }, { on := 4, ground := Ground.guard }], guard := some (4, true) }) rfl (fun K hK => ?_) AllReadyH.nil
    go_simp
    refine hK.out _ _ h0 (fun h2 => ?_)
    clear hK K
    try simp only [Act.put, List.setIfInBounds_toArray, List.set_cons_zero, List.set_cons_succ]
    refine wpAnyH_ready (rs := [14]) (by kernel_rfl) (by simp) ?_
    refine AllReadyH.cons (o := { dst := some 135, op := Op.indexAddr 26 (Operand.tmp 131) (Operand.tmp 134), type := 0, pos := "law.go:63", after := #[{ on := 10, ground := Ground.data }, { on := 13, ground := Ground.data }, { on := 4, ground := Ground.guard }], guard := some (4, true) }) rfl (fun K hK => ?_) AllReadyH.nil
    go_simp
    refine hK.out _ _ h0 (fun h3 => ?_)
    clear hK K
    try simp only [Act.put, List.setIfInBounds_toArray, List.set_cons_zero, List.set_cons_succ]
    refine wpAnyH_take (i := 15) (oi := { dst := some 136, op := Op.load 5 (Operand.tmp 135), type := 5, pos := "law.go:63", after := #[{ on := 14, ground := Ground.data }, { on := 4, ground := Ground.guard }], guard := some (4, true) }) (v := ?vs15) rfl (by kernel_rfl) (by kernel_rfl) (by kernel_rfl) (fun _ _ _ h => h) (Or.inl ⟨by rfl, ?hys15⟩) h0 ?rests15
    case hys15 => (intro w hSw; (try dsimp only at hSw); go_simp; try with_reducible rfl)
    try simp only [Act.put, List.setIfInBounds_toArray, List.set_cons_zero, List.set_cons_succ]
    refine wpAnyH_take (i := 16) (oi := { dst := some 137, op := Op.binOp BinOp.eql 5 (Operand.tmp 136) (Operand.const (Value.int IntKind.u8 165)) 5, type := 4, pos := "law.go:63", after := #[{ on := 15, ground := Ground.data }, { on := 4, ground := Ground.guard }], guard := some (4, true) }) (v := ?vs16) rfl (by kernel_rfl) (by kernel_rfl) (by kernel_rfl) (fun _ _ _ h => h) (Or.inl ⟨by rfl, ?hys16⟩) h0 ?rests16
    case hys16 => (intro w hSw; (try dsimp only at hSw); go_simp; try with_reducible rfl)
    try simp only [Act.put, List.setIfInBounds_toArray, List.set_cons_zero, List.set_cons_succ]
    refine wpAnyH_take (i := 17) (oi := { dst := some 138, op := Op.pick (Operand.tmp 125) (Operand.tmp 137) (Operand.const (Value.bool false)), type := 4, pos := "law.go:63", after := #[{ on := 4, ground := Ground.data }, { on := 16, ground := Ground.data }], guard := none }) (v := ?vs17) rfl (by kernel_rfl) (by kernel_rfl) (by kernel_rfl) (fun _ _ _ h => h) (Or.inl ⟨by rfl, ?hys17⟩) h0 ?rests17
    case hys17 => (intro w hSw; (try dsimp only at hSw); go_simp; try with_reducible rfl)
    try simp only [Act.put, List.setIfInBounds_toArray, List.set_cons_zero, List.set_cons_succ]
    refine wpAnyH_take (i := 18) (oi := { dst := some 11, op := Op.assign (Operand.tmp 138), type := 4, pos := "law.go:63", after := #[{ on := 17, ground := Ground.data }, { on := 4, ground := Ground.chain }, { on := 0, ground := Ground.phase }, { on := 1, ground := Ground.phase }, { on := 2, ground := Ground.phase }, { on := 3, ground := Ground.phase }, { on := 4, ground := Ground.phase }, { on := 5, ground := Ground.phase }, { on := 6, ground := Ground.phase }, { on := 7, ground := Ground.phase }, { on := 8, ground := Ground.phase }, { on := 9, ground := Ground.phase }, { on := 10, ground := Ground.phase }, { on := 11, ground := Ground.phase }, { on := 12, ground := Ground.phase }, { on := 13, ground := Ground.phase }, { on := 14, ground := Ground.phase }, { on := 15, ground := Ground.phase }, { on := 16, ground := Ground.phase }, { on := 17, ground := Ground.phase }], guard := none }) (v := ?vs18) rfl (by kernel_rfl) (by kernel_rfl) (by kernel_rfl) (fun _ _ _ h => h) (Or.inl ⟨by rfl, ?hys18⟩) h0 ?rests18
    case hys18 => (intro w hSw; (try dsimp only at hSw); go_simp; try with_reducible rfl)
    try simp only [Act.put, List.setIfInBounds_toArray, List.set_cons_zero, List.set_cons_succ]
    refine wpAnyH_done (by kernel_rfl) ?_ _
    clear h0 h1 h2 h3 s1d
    clear s1 c13 h165 hrow1d hsrc1d hBw
    go_wp2_with fail
    go_loopw [12] (fun iv wr => ∃ (j : Nat) (M : List Int), j ≤ B.length ∧ B.length < M.length ∧ iv = .int .i64 j ∧ Rw 5 wr G M ∧ Kp (fun i => i = G) wc wr) (fun i _ => B.length - (intOf i).toNat)
    case atStart => exact ⟨0, _, Nat.zero_le _, by simp, rfl, HR1.out, (Kp.refl _ _).drew⟩
    case round =>
      obtain ⟨j, M, hj, hM, rfl, rw1, kw⟩ := hrel
      by_cases hjn : j < B.length
      · have hc := rw1.cell j (by omega)
        have hf := rw1.frozen j
        have HM : Hid (B.length < M.length) := hM
        generalize M.getD j 0 = z at hc
        clear hM
        go_wp2_with fail
        go_roundw
        case rel => exact ⟨j + 1, M.set j _, by omega, by rw [List.length_set]; exact HM.out, by go_num, rw1.set j _, kw.trans (kp_setCell wr G j _ (fun i => i = G) rfl) (fun _ _ x => x)⟩
        case measure => simp [intOf]; omega
      · have hnG : ¬ gl = G := by have := HW.out.st.lt; have := HG1.out; omega
        have hnS : ¬ w.heap.size = G := by have := HG1.out; omega
        have HG : Hid (St 26 wr gl #[.slice ao N cap]) := HG26.out.kp kw hnG
        have HS : Hid (St 33 wr w.heap.size #[.int .i64 4, .int .i64 n, .int .u64 x, .slice aB B.length cB]) := HS1.out.kp kw hnS
        have c0 : wr.cell? ⟨gl, 0, none⟩ = some (.slice ao N cap) := HG.out.cell 0
        have hdm := HDM.out
        have hdm2 : ((((N : Int)).tmod 8 : Int) == 0) = false := by rw [hdm]; simp; omega
        have HKW : Hid (Ok' w wr) := HKM.out.trans kw (fun i hi e => by have := HG1.out; omega)
        clear hdm rw1 kw hM
        go_wp2_with (go_at_call 16; refine (num_any _ _).mono ?_; rintro e w' ⟨rfl, rfl⟩)
        go_ret
        exact ⟨rfl, stp_same HW.out HKW.out (by omega)⟩
end Go.Proofs.Ytfeokjbmobmabaa
