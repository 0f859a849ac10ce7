/- Contracts of the statements' own step(): Raw beside the reference's bits. -/
import Derived.Test.YtfeokjbmobmabaaStepD
import Derived.Deep.RegionHeld3
import Derived.Deep.CutRange
namespace Go.Proofs.Ytfeokjbmobmabaa
open Go.RowKit


set_option maxRecDepth 100000 in
set_option maxHeartbeats 4000000 in
theorem step_raw_ok (g gl : Nat) (sl u : Value) (N v : Nat) (n x : Int) (aB : Option Addr) (B : List Int) (cB : Nat) (w : World) (h : WL w g gl sl u N v) (hN : N ≤ 1000000) (h8 : N % 8 = 0) (hB : B.length ≤ 300) (hb : Byt B) (hsrc : Src w aB B) (hnb : aB = none → cB = 0) (hfar : 0 < B.length → ∀ b off, aB = some ⟨b, off, none⟩ → b ≠ g ∧ b ≠ gl ∧ sl.ownBlock ≠ some b ∧ b < w.heap.size) :
    Calls Try.prog 11 #[.pointer (some ⟨g, 0, none⟩), .pointer (some ⟨gl, 0, none⟩), .agg #[.int .i64 4, .int .i64 n, .int .u64 x, .slice aB B.length cB]] w fun e w' => e = .returned (.bool true) ∧ Stp w w' g gl sl u (N + 2400) := by
  have k0 : Ok' w (w.alloc (.cells #[.int .i64 4, .int .i64 n, .int .u64 x, .slice aB B.length cB] 33)) := (Kp.refl _ w).alloc _
  have sA : St 33 (w.alloc (.cells #[.int .i64 4, .int .i64 n, .int .u64 x, .slice aB B.length cB] 33)) w.heap.size #[.int .i64 4, .int .i64 n, .int .u64 x, .slice aB B.length cB] := heap_alloc_new w _
  obtain ⟨ao, cap, hu, hnil⟩ := h.own.slice
  rw [dig_length] at hu
  subst hu
  have HW : Hid (WL w g gl sl (.slice ao N cap) N v) := h
  have HB : Hid (B.length ≤ 300 ∧ Byt B) := ⟨hB, hb⟩
  have HNB : Hid (aB = none → cB = 0) := hnb
  have HNIL : Hid (ao = none → cap = 0) := hnil
  have HF : Hid (0 < B.length → ∀ b off, aB = some ⟨b, off, none⟩ → b ≠ g ∧ b ≠ gl ∧ sl.ownBlock ≠ some b ∧ b < w.heap.size) := hfar
  have HS0 : Hid (St 33 (w.alloc (.cells #[.int .i64 4, .int .i64 n, .int .u64 x, .slice aB B.length cB] 33)) w.heap.size #[.int .i64 4, .int .i64 n, .int .u64 x, .slice aB B.length cB]) := sA
  have HK0 : Hid (Ok' w (w.alloc (.cells #[.int .i64 4, .int .i64 n, .int .u64 x, .slice aB B.length cB] 33))) := k0
  have HSRC : Hid (Src (w.alloc (.cells #[.int .i64 4, .int .i64 n, .int .u64 x, .slice aB B.length cB] 33)) aB B) := src_if hsrc k0 (fun _ _ _ _ x => x)
  have T1 : Hid (([] : List Int).length + B.length ≤ 140737488355328) := by show _ ≤ _; simp; omega
  have T2 : Hid (([] ++ B : List Int).length + ([165] : List Int).length ≤ 140737488355328) := by show _ ≤ _; simp; omega
  have hdm : ((N : Int)).tmod 8 = ((N % 8 : Nat) : Int) := by rw [Int.tmod_eq_emod_of_nonneg (by omega)]; omega
  have HDM : Hid (((N : Int)).tmod 8 = ((N % 8 : Nat) : Int)) := hdm
  clear h sA k0 hnb hnil hfar hsrc hdm hb
  go_enter Try.func11, Try.ntmps11
  go_wp2_with fail
  generalize w.alloc (.cells #[.int .i64 4, .int .i64 n, .int .u64 x, .slice aB B.length cB] 33) = w0 at HS0 HK0 HSRC ⊢
  go_cut [9] from 108 to 117 (fun mv wx => ∃ (G c : Nat) (tl : List Int), mv = .slice (some ⟨G, 0, none⟩) B.length c ∧ w0.heap.size ≤ G ∧ Rw 5 wx G (B ++ (165 :: tl)) ∧ Ok' w0 wx ∧ B.length + 1 ≤ c ∧ c ≤ maxLen)
  case first =>
    refine wp_region_held_drew (S := (fun w' => w'.cell? ⟨w.heap.size, 3, none⟩ = some (.slice aB B.length cB))) (by kernel_rfl) (HS0.out.drew.cell 3) (fun h0 => ?_)
    refine wpAnyH_take (i := 1) (oi := { dst := some 109, op := Op.fieldAddr 33 (Operand.tmp 5) 3, type := 0, pos := "law.go:61", after := #[], guard := none }) (v := ?vr1) rfl (by kernel_rfl) (by kernel_rfl) (by kernel_rfl) (fun _ _ _ h => h) (Or.inl ⟨by rfl, ?hyr1⟩) h0 ?restr1
    case hyr1 => (intro w hSw; (try dsimp only at hSw); go_simp; try with_reducible rfl)
    try simp only [Act.put, List.setIfInBounds_toArray, List.set_cons_zero, List.set_cons_succ]
    refine wpAnyH_take (i := 2) (oi := { dst := some 110, op := Op.load 26 (Operand.tmp 109), type := 26, pos := "law.go:61", after := #[{ on := 1, ground := Ground.data }], guard := none }) (v := ?vr2) rfl (by kernel_rfl) (by kernel_rfl) (by kernel_rfl) (fun _ _ _ h => h) (Or.inl ⟨by rfl, ?hyr2⟩) h0 ?restr2
    case hyr2 => (intro w hSw; (try dsimp only at hSw); go_simp; try with_reducible rfl)
    try simp only [Act.put, List.setIfInBounds_toArray, List.set_cons_zero, List.set_cons_succ]
    refine wpAnyH_take (i := 6) (oi := { dst := some 114, op := Op.fieldAddr 33 (Operand.tmp 5) 3, type := 0, pos := "law.go:61", after := #[], guard := none }) (v := ?vr6) rfl (by kernel_rfl) (by kernel_rfl) (by kernel_rfl) (fun _ _ _ h => h) (Or.inl ⟨by rfl, ?hyr6⟩) h0 ?restr6
    case hyr6 => (intro w hSw; (try dsimp only at hSw); go_simp; try with_reducible rfl)
    try simp only [Act.put, List.setIfInBounds_toArray, List.set_cons_zero, List.set_cons_succ]
    refine wpAnyH_take (i := 7) (oi := { dst := some 115, op := Op.load 26 (Operand.tmp 114), type := 26, pos := "law.go:61", after := #[{ on := 6, ground := Ground.data }], guard := none }) (v := ?vr7) rfl (by kernel_rfl) (by kernel_rfl) (by kernel_rfl) (fun _ _ _ h => h) (Or.inl ⟨by rfl, ?hyr7⟩) h0 ?restr7
    case hyr7 => (intro w hSw; (try dsimp only at hSw); go_simp; try with_reducible rfl)
    try simp only [Act.put, List.setIfInBounds_toArray, List.set_cons_zero, List.set_cons_succ]
    refine wpAnyH_take (i := 8) (oi := { dst := some 116, op := Op.call { callee := Callee.builtin Builtin.len, args := #[Operand.tmp 115], argTypes := #[26] }, type := 3, pos := "law.go:61", after := #[{ on := 7, ground := Ground.data }], guard := none }) (v := ?vr8) rfl (by kernel_rfl) (by kernel_rfl) (by kernel_rfl) (fun _ _ _ h => h) (Or.inl ⟨by rfl, ?hyr8⟩) h0 ?restr8
    case hyr8 => (intro w hSw; (try dsimp only at hSw); go_simp; try with_reducible rfl)
    try simp only [Act.put, List.setIfInBounds_toArray, List.set_cons_zero, List.set_cons_succ]
    have HKa : Hid (Ok' w0 (w0.alloc (.cells #[] 5)).drew) := ((Kp.refl _ w0).alloc _).drew
    have HKb : Hid (Ok' w0 ((w0.alloc (.cells #[] 5)).alloc (.cells #[.int .u8 165] 5)).drew) := (((Kp.refl _ w0).alloc _).alloc _).drew
    have HKc : Hid (Ok' w0 ((w0.alloc (.cells #[.int .u8 165] 5)).alloc (.cells #[] 5)).drew) := (((Kp.refl _ w0).alloc _).alloc _).drew
    have HKd : Hid (Ok' w0 (w0.alloc (.cells #[.int .u8 165] 5)).drew) := ((Kp.refl _ w0).alloc _).drew
    refine wpAnyH_ready (rs := [0, 4]) (by kernel_rfl) (by simp) ?_
    refine AllReadyH.cons (o := { dst := some 108, op := Op.buildSlice 26 0 #[], type := 26, pos := "law.go:61", after := #[], guard := none }) rfl (fun K hK => ?_) (AllReadyH.cons (o := { dst := some 112, op := Op.buildSlice 26 1 #[(0, Operand.const (Value.int IntKind.u8 165))], type := 26, pos := "law.go:61", after := #[], guard := none }) rfl (fun K hK => ?_) AllReadyH.nil)
    · go_simp
      refine hK.out _ _ ((HS0.out.kp HKa.out (fun x => x)).cell 3) (fun h1 => ?_)
      clear hK K
      try simp only [Act.put, List.setIfInBounds_toArray, List.set_cons_zero, List.set_cons_succ]
      refine wpAnyH_ready (rs := [3, 4]) (by kernel_rfl) (by simp) ?_
      refine AllReadyH.cons (o := { dst := some 111, op := Op.call { callee := Callee.builtin Builtin.append, args := #[Operand.tmp 108, Operand.tmp 110], argTypes := #[26, 26] }, type := 26, pos := "law.go:61", after := #[{ on := 0, ground := Ground.data }, { on := 2, ground := Ground.data }], guard := none }) rfl (fun K hK => ?_) (AllReadyH.cons (o := { dst := some 112, op := Op.buildSlice 26 1 #[(0, Operand.const (Value.int IntKind.u8 165))], type := 26, pos := "law.go:61", after := #[], guard := none }) rfl (fun K hK => ?_) AllReadyH.nil)
      · refine step_append_i rfl (.tmp 108) (.tmp 110) rfl w0.heap.size (.slice (some ⟨w0.heap.size, 0, none⟩) 0 0) [] (by simp [Act.eval]) (own_empty w0).drew aB B.length cB B (by simp [Act.eval]) rfl HNB.out (src_if HSRC.out HKa.out (fun _ _ _ _ x => x)) T1.out HKa.out.size ?_
        intro v1 w1 o1 g1 n1
        have K1 : Hid (Ok' w0 w1) := kp_append HKa.out (own_empty w0).drew g1
        have o1' : Hid (OwnI w1 w0.heap.size v1 ([] ++ B)) := o1
        clear o1 g1 n1
        refine hK.out _ _ ((HS0.out.kp K1.out (fun x => x)).cell 3) (fun h2 => ?_)
        clear hK K
        try simp only [Act.put, List.setIfInBounds_toArray, List.set_cons_zero, List.set_cons_succ]
        refine wpAnyH_ready (rs := [4]) (by kernel_rfl) (by simp) ?_
        refine AllReadyH.cons (o := { dst := some 112, op := Op.buildSlice 26 1 #[(0, Operand.const (Value.int IntKind.u8 165))], type := 26, pos := "law.go:61", after := #[], guard := none }) rfl (fun K hK => ?_) AllReadyH.nil
        go_simp
        refine hK.out _ _ ((HS0.out.kp (K1.out.alloc _) (fun x => x)).cell 3) (fun h3 => ?_)
        clear hK K
        try simp only [Act.put, List.setIfInBounds_toArray, List.set_cons_zero, List.set_cons_succ]
        refine wpAnyH_ready (rs := [5]) (by kernel_rfl) (by simp) ?_
        refine AllReadyH.cons (o := { dst := some 113, op := Op.call { callee := Callee.builtin Builtin.append, args := #[Operand.tmp 111, Operand.tmp 112], argTypes := #[26, 26] }, type := 26, pos := "law.go:61", after := #[{ on := 3, ground := Ground.data }, { on := 4, ground := Ground.data }, { on := 3, ground := Ground.chain }], guard := none }) rfl (fun K hK => ?_) AllReadyH.nil
        refine step_append_i rfl (.tmp 111) (.tmp 112) rfl w0.heap.size v1 ([] ++ B) (by simp [Act.eval]) (o1'.out.alloc _) (some ⟨w1.heap.size, 0, none⟩) 1 1 [165] (by simp [Act.eval]) rfl (fun e => by cases e) (row_src (tl := []) (Rw.new 5 w1 [165])) T2.out (by have := K1.out.size; simp; omega) ?_
        intro v2 w2 o2 g2 n2
        have K2 : Hid (Ok' w0 w2) := kp_append (K1.out.alloc _) (o1'.out.alloc _) g2
        obtain ⟨G, c, tl, rfl, hG, hrow, hc1, hc2⟩ := own_form2 o2
        have hc3 : (B.length : Int) ≤ (c : Int) := by omega
        have hc4 : (0 : Int) ≤ (B.length : Int) := by omega
        clear o2 g2 n2
        refine hK.out _ _ ((HS0.out.kp K2.out (fun x => x)).cell 3) (fun h5 => ?_)
        clear hK K
        try simp only [Act.put, List.setIfInBounds_toArray, List.set_cons_zero, List.set_cons_succ]
        refine wpAnyH_take (i := 9) (oi := { dst := some 117, op := Op.slice 26 (Operand.tmp 113) none (some (Operand.tmp 116)) none, type := 26, pos := "law.go:61", after := #[{ on := 5, ground := Ground.data }, { on := 8, ground := Ground.data }], guard := none }) (v := ?vra9) rfl (by kernel_rfl) (by kernel_rfl) (by kernel_rfl) (fun _ _ _ h => h) (Or.inl ⟨by rfl, ?hyra9⟩) h5 ?restra9
        case hyra9 => (intro w hSw; (try dsimp only at hSw); go_simp; try with_reducible rfl)
        try simp only [Act.put, List.setIfInBounds_toArray, List.set_cons_zero, List.set_cons_succ]
        refine wpAnyH_take (i := 10) (oi := { dst := some 9, op := Op.assign (Operand.tmp 117), type := 26, pos := "law.go:61", after := #[{ on := 9, ground := Ground.data }, { on := 5, ground := Ground.chain }, { on := 0, ground := Ground.phase }, { on := 1, ground := Ground.phase }, { on := 2, ground := Ground.phase }, { on := 3, ground := Ground.phase }, { on := 4, ground := Ground.phase }, { on := 5, ground := Ground.phase }, { on := 6, ground := Ground.phase }, { on := 7, ground := Ground.phase }, { on := 8, ground := Ground.phase }, { on := 9, ground := Ground.phase }], guard := none }) (v := ?vra10) rfl (by kernel_rfl) (by kernel_rfl) (by kernel_rfl) (fun _ _ _ h => h) (Or.inl ⟨by rfl, ?hyra10⟩) h5 ?restra10
        case hyra10 => (intro w hSw; (try dsimp only at hSw); go_simp; try with_reducible rfl)
        try simp only [Act.put, List.setIfInBounds_toArray, List.set_cons_zero, List.set_cons_succ]
        refine wpAnyH_done (by kernel_rfl) ?_ _
        clear h5
        go_wp2_with fail
        go_meet
        case rel => exact ⟨G, c, tl, rfl, hG, hrow, K2.out, hc1, hc2⟩
      · go_simp
        refine hK.out _ _ ((HS0.out.kp HKb.out (fun x => x)).cell 3) (fun h2 => ?_)
        clear hK K
        try simp only [Act.put, List.setIfInBounds_toArray, List.set_cons_zero, List.set_cons_succ]
        refine wpAnyH_ready (rs := [3]) (by kernel_rfl) (by simp) ?_
        refine AllReadyH.cons (o := { dst := some 111, op := Op.call { callee := Callee.builtin Builtin.append, args := #[Operand.tmp 108, Operand.tmp 110], argTypes := #[26, 26] }, type := 26, pos := "law.go:61", after := #[{ on := 0, ground := Ground.data }, { on := 2, ground := Ground.data }], guard := none }) rfl (fun K hK => ?_) AllReadyH.nil
        refine step_append_i rfl (.tmp 108) (.tmp 110) rfl w0.heap.size (.slice (some ⟨w0.heap.size, 0, none⟩) 0 0) [] (by simp [Act.eval]) ((own_empty w0).alloc _).drew aB B.length cB B (by simp [Act.eval]) rfl HNB.out (src_if HSRC.out HKb.out (fun _ _ _ _ x => x)) T1.out HKb.out.size ?_
        intro v1 w1 o1 g1 n1
        have K1 : Hid (Ok' w0 w1) := kp_append HKb.out ((own_empty w0).alloc _).drew g1
        have o1' : Hid (OwnI w1 w0.heap.size v1 ([] ++ B)) := o1
        have r1 : Hid (Rw 5 w1 (w0.heap.size + 1) [165]) := row_grown (w0 := w0.alloc (.cells #[] 5)) (by simp) g1
        clear o1 g1 n1
        refine hK.out _ _ ((HS0.out.kp K1.out (fun x => x)).cell 3) (fun h3 => ?_)
        clear hK K
        try simp only [Act.put, List.setIfInBounds_toArray, List.set_cons_zero, List.set_cons_succ]
        refine wpAnyH_ready (rs := [5]) (by kernel_rfl) (by simp) ?_
        refine AllReadyH.cons (o := { dst := some 113, op := Op.call { callee := Callee.builtin Builtin.append, args := #[Operand.tmp 111, Operand.tmp 112], argTypes := #[26, 26] }, type := 26, pos := "law.go:61", after := #[{ on := 3, ground := Ground.data }, { on := 4, ground := Ground.data }, { on := 3, ground := Ground.chain }], guard := none }) rfl (fun K hK => ?_) AllReadyH.nil
        refine step_append_i rfl (.tmp 111) (.tmp 112) rfl w0.heap.size v1 ([] ++ B) (by simp [Act.eval]) o1'.out (some ⟨w0.heap.size + 1, 0, none⟩) 1 1 [165] (by simp [Act.eval]) rfl (fun e => by cases e) (row_src (tl := []) r1.out) T2.out K1.out.size ?_
        intro v2 w2 o2 g2 n2
        have K2 : Hid (Ok' w0 w2) := kp_append K1.out o1'.out g2
        obtain ⟨G, c, tl, rfl, hG, hrow, hc1, hc2⟩ := own_form2 o2
        have hc3 : (B.length : Int) ≤ (c : Int) := by omega
        have hc4 : (0 : Int) ≤ (B.length : Int) := by omega
        clear o2 g2 n2
        refine hK.out _ _ ((HS0.out.kp K2.out (fun x => x)).cell 3) (fun h5 => ?_)
        clear hK K
        try simp only [Act.put, List.setIfInBounds_toArray, List.set_cons_zero, List.set_cons_succ]
        refine wpAnyH_take (i := 9) (oi := { dst := some 117, op := Op.slice 26 (Operand.tmp 113) none (some (Operand.tmp 116)) none, type := 26, pos := "law.go:61", after := #[{ on := 5, ground := Ground.data }, { on := 8, ground := Ground.data }], guard := none }) (v := ?vrb9) rfl (by kernel_rfl) (by kernel_rfl) (by kernel_rfl) (fun _ _ _ h => h) (Or.inl ⟨by rfl, ?hyrb9⟩) h5 ?restrb9
        case hyrb9 => (intro w hSw; (try dsimp only at hSw); go_simp; try with_reducible rfl)
        try simp only [Act.put, List.setIfInBounds_toArray, List.set_cons_zero, List.set_cons_succ]
        refine wpAnyH_take (i := 10) (oi := { dst := some 9, op := Op.assign (Operand.tmp 117), type := 26, pos := "law.go:61", after := #[{ on := 9, ground := Ground.data }, { on := 5, ground := Ground.chain }, { on := 0, ground := Ground.phase }, { on := 1, ground := Ground.phase }, { on := 2, ground := Ground.phase }, { on := 3, ground := Ground.phase }, { on := 4, ground := Ground.phase }, { on := 5, ground := Ground.phase }, { on := 6, ground := Ground.phase }, { on := 7, ground := Ground.phase }, { on := 8, ground := Ground.phase }, { on := 9, ground := Ground.phase }], guard := none }) (v := ?vrb10) rfl (by kernel_rfl) (by kernel_rfl) (by kernel_rfl) (fun _ _ _ h => h) (Or.inl ⟨by rfl, ?hyrb10⟩) h5 ?restrb10
        case hyrb10 => (intro w hSw; (try dsimp only at hSw); go_simp; try with_reducible rfl)
        try simp only [Act.put, List.setIfInBounds_toArray, List.set_cons_zero, List.set_cons_succ]
        refine wpAnyH_done (by kernel_rfl) ?_ _
        clear h5
        go_wp2_with fail
        go_meet
        case rel => exact ⟨G, c, tl, rfl, hG, hrow, K2.out, hc1, hc2⟩
    · go_simp
      refine hK.out _ _ ((HS0.out.kp HKd.out (fun x => x)).cell 3) (fun h1 => ?_)
      clear hK K
      try simp only [Act.put, List.setIfInBounds_toArray, List.set_cons_zero, List.set_cons_succ]
      refine wpAnyH_ready (rs := [0]) (by kernel_rfl) (by simp) ?_
      refine AllReadyH.cons (o := { dst := some 108, op := Op.buildSlice 26 0 #[], type := 26, pos := "law.go:61", after := #[], guard := none }) rfl (fun K hK => ?_) AllReadyH.nil
      go_simp
      refine hK.out _ _ ((HS0.out.kp HKc.out (fun x => x)).cell 3) (fun h2 => ?_)
      clear hK K
      try simp only [Act.put, List.setIfInBounds_toArray, List.set_cons_zero, List.set_cons_succ]
      refine wpAnyH_ready (rs := [3]) (by kernel_rfl) (by simp) ?_
      refine AllReadyH.cons (o := { dst := some 111, op := Op.call { callee := Callee.builtin Builtin.append, args := #[Operand.tmp 108, Operand.tmp 110], argTypes := #[26, 26] }, type := 26, pos := "law.go:61", after := #[{ on := 0, ground := Ground.data }, { on := 2, ground := Ground.data }], guard := none }) rfl (fun K hK => ?_) AllReadyH.nil
      refine step_append_i rfl (.tmp 108) (.tmp 110) rfl w0.heap.size (.slice (some ⟨w0.heap.size + 1, 0, none⟩) 0 0) [] (by simp [Act.eval]) (own_empty1 w0) aB B.length cB B (by simp [Act.eval]) rfl HNB.out (src_if HSRC.out HKc.out (fun _ _ _ _ x => x)) T1.out HKc.out.size ?_
      intro v1 w1 o1 g1 n1
      have K1 : Hid (Ok' w0 w1) := kp_append HKc.out (own_empty1 w0) g1
      have o1' : Hid (OwnI w1 w0.heap.size v1 ([] ++ B)) := o1
      have r1 : Hid (Rw 5 w1 w0.heap.size [165]) := row_grown2 g1
      clear o1 g1 n1
      refine hK.out _ _ ((HS0.out.kp K1.out (fun x => x)).cell 3) (fun h3 => ?_)
      clear hK K
      try simp only [Act.put, List.setIfInBounds_toArray, List.set_cons_zero, List.set_cons_succ]
      refine wpAnyH_ready (rs := [5]) (by kernel_rfl) (by simp) ?_
      refine AllReadyH.cons (o := { dst := some 113, op := Op.call { callee := Callee.builtin Builtin.append, args := #[Operand.tmp 111, Operand.tmp 112], argTypes := #[26, 26] }, type := 26, pos := "law.go:61", after := #[{ on := 3, ground := Ground.data }, { on := 4, ground := Ground.data }, { on := 3, ground := Ground.chain }], guard := none }) rfl (fun K hK => ?_) AllReadyH.nil
      refine step_append_i rfl (.tmp 111) (.tmp 112) rfl w0.heap.size v1 ([] ++ B) (by simp [Act.eval]) o1'.out (some ⟨w0.heap.size, 0, none⟩) 1 1 [165] (by simp [Act.eval]) rfl (fun e => by cases e) (row_src (tl := []) r1.out) T2.out K1.out.size ?_
      intro v2 w2 o2 g2 n2
      have K2 : Hid (Ok' w0 w2) := kp_append K1.out o1'.out g2
      obtain ⟨G, c, tl, rfl, hG, hrow, hc1, hc2⟩ := own_form2 o2
      have hc3 : (B.length : Int) ≤ (c : Int) := by omega
      have hc4 : (0 : Int) ≤ (B.length : Int) := by omega
      clear o2 g2 n2
      refine hK.out _ _ ((HS0.out.kp K2.out (fun x => x)).cell 3) (fun h5 => ?_)
      clear hK K
      try simp only [Act.put, List.setIfInBounds_toArray, List.set_cons_zero, List.set_cons_succ]
      refine wpAnyH_take (i := 9) (oi := { dst := some 117, op := Op.slice 26 (Operand.tmp 113) none (some (Operand.tmp 116)) none, type := 26, pos := "law.go:61", after := #[{ on := 5, ground := Ground.data }, { on := 8, ground := Ground.data }], guard := none }) (v := ?vrc9) rfl (by kernel_rfl) (by kernel_rfl) (by kernel_rfl) (fun _ _ _ h => h) (Or.inl ⟨by rfl, ?hyrc9⟩) h5 ?restrc9
      case hyrc9 => (intro w hSw; (try dsimp only at hSw); go_simp; try with_reducible rfl)
      try simp only [Act.put, List.setIfInBounds_toArray, List.set_cons_zero, List.set_cons_succ]
      refine wpAnyH_take (i := 10) (oi := { dst := some 9, op := Op.assign (Operand.tmp 117), type := 26, pos := "law.go:61", after := #[{ on := 9, ground := Ground.data }, { on := 5, ground := Ground.chain }, { on := 0, ground := Ground.phase }, { on := 1, ground := Ground.phase }, { on := 2, ground := Ground.phase }, { on := 3, ground := Ground.phase }, { on := 4, ground := Ground.phase }, { on := 5, ground := Ground.phase }, { on := 6, ground := Ground.phase }, { on := 7, ground := Ground.phase }, { on := 8, ground := Ground.phase }, { on := 9, ground := Ground.phase }], guard := none }) (v := ?vrc10) rfl (by kernel_rfl) (by kernel_rfl) (by kernel_rfl) (fun _ _ _ h => h) (Or.inl ⟨by rfl, ?hyrc10⟩) h5 ?restrc10
      case hyrc10 => (intro w hSw; (try dsimp only at hSw); go_simp; try with_reducible rfl)
      try simp only [Act.put, List.setIfInBounds_toArray, List.set_cons_zero, List.set_cons_succ]
      refine wpAnyH_done (by kernel_rfl) ?_ _
      clear h5
      go_wp2_with fail
      go_meet
      case rel => exact ⟨G, c, tl, rfl, hG, hrow, K2.out, hc1, hc2⟩
  case rest =>
    clear T1 T2
    obtain ⟨G, c, tl, rfl, hG, hrow, km, hc1, hc2⟩ := hcut
    have HKM : Hid (Ok' w wc) := HK0.out.trans km (fun _ _ x => x)
    have hS : St 33 wc w.heap.size #[.int .i64 4, .int .i64 n, .int .u64 x, .slice aB B.length cB] := HS0.out.kp km (fun x => x)
    have HSC : Hid (Src wc aB B) := src_if HSRC.out km (fun _ _ _ _ x => x)
    have HG1 : Hid (w.heap.size < G ∧ G < wc.heap.size) := ⟨Nat.lt_of_lt_of_le HS0.out.lt hG, hrow.lt⟩
    clear HS0 HSRC hG km
    go_wp2_with fail
    refine (rawW_ok g sl N v (some ⟨G, 0, none⟩) c B wc (by omega) h8 (by omega) HB.out.2 (row_src hrow) (fun e => by cases e) (HW.out.wr.ok HKM.out)).mono ?_
    rintro e w1 ⟨rfl, hp⟩
    have HGg : Hid (¬ (G = g ∨ sl.ownBlock = some G)) := by
      rintro (e | e)
      · have := HW.out.wr.2.1.lt; have := HG1.out; omega
      · have := HW.out.slt G e; have := HG1.out; omega
    have HSg : Hid (¬ (w.heap.size = g ∨ sl.ownBlock = some w.heap.size)) := by
      rintro (e | e)
      · have := HW.out.wr.2.1.lt; omega
      · have := HW.out.slt _ e; omega
    have hrow1 := hrow.kp hp.keep HGg.out
    have hS1 := hS.kp hp.keep HSg.out
    have HSC1 : Hid (Src w1 aB B) := src_if HSC.out hp.keep (fun hl b off e x => by
      obtain ⟨h1, _, h3, _⟩ := HF.out hl b off e
      rcases x with x | x
      · exact h1 x
      · exact h3 x)
    have HPT : Hid (Put' wc w1 g sl (N + 8 * B.length) (v + und 256 B * 2 ^ N)) := hp
    have HG26 : Hid (St 26 w1 gl #[.slice ao N cap]) := ((HW.out.ok HKM.out).put hp).1
    clear hp hrow hS HGg HSg
    have HS1 : Hid (St 33 w1 w.heap.size #[.int .i64 4, .int .i64 n, .int .u64 x, .slice aB B.length cB]) := hS1
    have HR1 : Hid (Rw 5 w1 G (B ++ (165 :: tl))) := hrow1
    have hrow1d : Rw 5 w1.drew G (B ++ (165 :: tl)) := hrow1
    have hsrc1d : Src w1.drew aB B := HSC1.out
    have h165 : w1.cell? ⟨G, B.length, none⟩ = some (.int .u8 165) := by
      rw [hrow1.cell B.length (by simp)]
      simp [List.getD]
    have c13 : w1.cell? ⟨w.heap.size, 3, none⟩ = some (.slice aB B.length cB) := hS1.cell 3
    have s1 := And.intro c13 h165
    have hBw : IntKind.i64.wrap ((B.length : Int) + 1) = (B.length : Int) + 1 := by rw [show ((B.length : Int) + 1) = ((B.length + 1 : Nat) : Int) by omega]; exact wrap_nat _ (by omega)
    have hc5 : (B.length : Int) + 1 ≤ (c : Int) := by omega
    have hc6 : (B.length : Int) < (B.length : Int) + 1 := by omega
    clear hrow1 hS1
    go_wp2_with fail
    have s1d : w1.drew.cell? ⟨w.heap.size, 3, none⟩ = some (.slice aB B.length cB) ∧ w1.drew.cell? ⟨G, B.length, none⟩ = some (.int .u8 165) := s1
    refine wp_region_held_drew (S := (fun w' => w'.cell? ⟨w.heap.size, 3, none⟩ = some (.slice aB B.length cB) ∧ w'.cell? ⟨G, B.length, none⟩ = some (.int .u8 165))) (by kernel_rfl) s1d (fun h0 => ?_)
    refine wpAnyH_take (i := 0) (oi := { dst := some 121, op := Op.move (Operand.tmp 9), type := 26, pos := "law.go:63", after := #[], guard := none }) (v := ?vs0) rfl (by kernel_rfl) (by kernel_rfl) (by kernel_rfl) (fun _ _ _ h => h) (Or.inl ⟨by rfl, ?hys0⟩) h0 ?rests0
    case hys0 => (intro w hSw; (try dsimp only at hSw); go_simp; try with_reducible rfl)
    try simp only [Act.put, List.setIfInBounds_toArray, List.set_cons_zero, List.set_cons_succ]
    refine wpAnyH_take (i := 1) (oi := { dst := some 122, op := Op.fieldAddr 33 (Operand.tmp 5) 3, type := 0, pos := "law.go:63", after := #[], guard := none }) (v := ?vs1) rfl (by kernel_rfl) (by kernel_rfl) (by kernel_rfl) (fun _ _ _ h => h) (Or.inl ⟨by rfl, ?hys1⟩) h0 ?rests1
    case hys1 => (intro w hSw; (try dsimp only at hSw); go_simp; try with_reducible rfl)
    try simp only [Act.put, List.setIfInBounds_toArray, List.set_cons_zero, List.set_cons_succ]
    refine wpAnyH_take (i := 2) (oi := { dst := some 123, op := Op.load 26 (Operand.tmp 122), type := 26, pos := "law.go:63", after := #[{ on := 1, ground := Ground.data }], guard := none }) (v := ?vs2) rfl (by kernel_rfl) (by kernel_rfl) (by kernel_rfl) (fun _ _ _ h => h) (Or.inl ⟨by rfl, ?hys2⟩) h0 ?rests2
    case hys2 => (intro w hSw; (try dsimp only at hSw); go_simp; try with_reducible rfl)
    try simp only [Act.put, List.setIfInBounds_toArray, List.set_cons_zero, List.set_cons_succ]
    refine wpAnyH_ready (rs := [3]) (by kernel_rfl) (by simp) ?_
    refine AllReadyH.cons (o := { dst := some 124, op := Op.call { callee := Callee.value (Operand.func 13), args := #[Operand.tmp 121, Operand.tmp 123], argTypes := #[26, 26] }, type := 4, pos := "law.go:63", after := #[{ on := 0, ground := Ground.data }, { on := 2, ground := Ground.data }], guard := none }) rfl (fun K hK => ?_) AllReadyH.nil
    go_simp
    (go_at_call 13; refine (same_eq (some ⟨G, 0, none⟩) aB c cB B.length B _ rfl (row_src hrow1d) hsrc1d).mono ?_; rintro e w' ⟨rfl, rfl⟩)
    go_wp2_with fail
    refine hK.out _ _ h0 (fun h1 => ?_)
    clear hK K
    try simp only [Act.put, List.setIfInBounds_toArray, List.set_cons_zero, List.set_cons_succ]
    refine wpAnyH_take (i := 4) (oi := { dst := some 125, op := Op.move (Operand.tmp 124), type := 4, pos := "law.go:63", after := #[{ on := 3, ground := Ground.data }, { on := 3, ground := Ground.chain }], guard := none }) (v := ?vs4) rfl (by kernel_rfl) (by kernel_rfl) (by kernel_rfl) (fun _ _ _ h => h) (Or.inl ⟨by rfl, ?hys4⟩) h0 ?rests4
    case hys4 => (intro w hSw; (try dsimp only at hSw); go_simp; try with_reducible rfl)
    try simp only [Act.put, List.setIfInBounds_toArray, List.set_cons_zero, List.set_cons_succ]
    refine wpAnyH_take (i := 5) (oi := { dst := some 126, op := Op.move (Operand.tmp 9), type := 26, pos := "law.go:63", after := #[{ on := 4, ground := Ground.guard }], guard := some (4, true) }) (v := ?vs5) rfl (by kernel_rfl) (by kernel_rfl) (by kernel_rfl) (fun _ _ _ h => h) (Or.inl ⟨by rfl, ?hys5⟩) h0 ?rests5
    case hys5 => (intro w hSw; (try dsimp only at hSw); go_simp; try with_reducible rfl)
    try simp only [Act.put, List.setIfInBounds_toArray, List.set_cons_zero, List.set_cons_succ]
    refine wpAnyH_take (i := 6) (oi := { dst := some 127, op := Op.fieldAddr 33 (Operand.tmp 5) 3, type := 0, pos := "law.go:63", after := #[{ on := 4, ground := Ground.guard }], guard := some (4, true) }) (v := ?vs6) rfl (by kernel_rfl) (by kernel_rfl) (by kernel_rfl) (fun _ _ _ h => h) (Or.inl ⟨by rfl, ?hys6⟩) h0 ?rests6
    case hys6 => (intro w hSw; (try dsimp only at hSw); go_simp; try with_reducible rfl)
    try simp only [Act.put, List.setIfInBounds_toArray, List.set_cons_zero, List.set_cons_succ]
    refine wpAnyH_take (i := 7) (oi := { dst := some 128, op := Op.load 26 (Operand.tmp 127), type := 26, pos := "law.go:63", after := #[{ on := 6, ground := Ground.data }, { on := 4, ground := Ground.guard }], guard := some (4, true) }) (v := ?vs7) rfl (by kernel_rfl) (by kernel_rfl) (by kernel_rfl) (fun _ _ _ h => h) (Or.inl ⟨by rfl, ?hys7⟩) h0 ?rests7
    case hys7 => (intro w hSw; (try dsimp only at hSw); go_simp; try with_reducible rfl)
    try simp only [Act.put, List.setIfInBounds_toArray, List.set_cons_zero, List.set_cons_succ]
    refine wpAnyH_take (i := 8) (oi := { dst := some 129, op := Op.call { callee := Callee.builtin Builtin.len, args := #[Operand.tmp 128], argTypes := #[26] }, type := 3, pos := "law.go:63", after := #[{ on := 7, ground := Ground.data }, { on := 4, ground := Ground.guard }], guard := some (4, true) }) (v := ?vs8) rfl (by kernel_rfl) (by kernel_rfl) (by kernel_rfl) (fun _ _ _ h => h) (Or.inl ⟨by rfl, ?hys8⟩) h0 ?rests8
    case hys8 => (intro w hSw; (try dsimp only at hSw); go_simp; try with_reducible rfl)
    try simp only [Act.put, List.setIfInBounds_toArray, List.set_cons_zero, List.set_cons_succ]
    refine wpAnyH_take (i := 9) (oi := { dst := some 130, op := Op.binOp BinOp.add 3 (Operand.tmp 129) (Operand.const (Value.int IntKind.i64 1)) 3, type := 3, pos := "law.go:63", after := #[{ on := 8, ground := Ground.data }, { on := 4, ground := Ground.guard }], guard := some (4, true) }) (v := ?vs9) rfl (by kernel_rfl) (by kernel_rfl) (by kernel_rfl) (fun _ _ _ h => h) (Or.inl ⟨by rfl, ?hys9⟩) h0 ?rests9
    case hys9 => (intro w hSw; (try dsimp only at hSw); go_simp; try with_reducible rfl)
    try simp only [Act.put, List.setIfInBounds_toArray, List.set_cons_zero, List.set_cons_succ]
    refine wpAnyH_take (i := 11) (oi := { dst := some 132, op := Op.fieldAddr 33 (Operand.tmp 5) 3, type := 0, pos := "law.go:63", after := #[{ on := 4, ground := Ground.guard }], guard := some (4, true) }) (v := ?vs11) rfl (by kernel_rfl) (by kernel_rfl) (by kernel_rfl) (fun _ _ _ h => h) (Or.inl ⟨by rfl, ?hys11⟩) h0 ?rests11
    case hys11 => (intro w hSw; (try dsimp only at hSw); go_simp; try with_reducible rfl)
    try simp only [Act.put, List.setIfInBounds_toArray, List.set_cons_zero, List.set_cons_succ]
    refine wpAnyH_take (i := 12) (oi := { dst := some 133, op := Op.load 26 (Operand.tmp 132), type := 26, pos := "law.go:63", after := #[{ on := 11, ground := Ground.data }, { on := 4, ground := Ground.guard }], guard := some (4, true) }) (v := ?vs12) rfl (by kernel_rfl) (by kernel_rfl) (by kernel_rfl) (fun _ _ _ h => h) (Or.inl ⟨by rfl, ?hys12⟩) h0 ?rests12
    case hys12 => (intro w hSw; (try dsimp only at hSw); go_simp; try with_reducible rfl)
    try simp only [Act.put, List.setIfInBounds_toArray, List.set_cons_zero, List.set_cons_succ]
    refine wpAnyH_take (i := 13) (oi := { dst := some 134, op := Op.call { callee := Callee.builtin Builtin.len, args := #[Operand.tmp 133], argTypes := #[26] }, type := 3, pos := "law.go:63", after := #[{ on := 12, ground := Ground.data }, { on := 4, ground := Ground.guard }], guard := some (4, true) }) (v := ?vs13) rfl (by kernel_rfl) (by kernel_rfl) (by kernel_rfl) (fun _ _ _ h => h) (Or.inl ⟨by rfl, ?hys13⟩) h0 ?rests13
    case hys13 => (intro w hSw; (try dsimp only at hSw); go_simp; try with_reducible rfl)
    try simp only [Act.put, List.setIfInBounds_toArray, List.set_cons_zero, List.set_cons_succ]
    refine wpAnyH_ready (rs := [10]) (by kernel_rfl) (by simp) ?_
    refine AllReadyH.cons (o := { dst := some 131, op := Op.slice 26 (Operand.tmp 126) none (some (Operand.tmp 130)) none, type := 26, pos := "law.go:63", after := #[{ on := 5, ground := Ground.data }, { on := 9, ground := Ground.data }, { on := 4, ground := Ground.guard }], guard := some (4, true) }) rfl (fun K hK => ?_) AllReadyH.nil
    go_simp
    refine hK.out _ _ h0 (fun h2 => ?_)
    clear hK K
    try simp only [Act.put, List.setIfInBounds_toArray, List.set_cons_zero, List.set_cons_succ]
    refine wpAnyH_ready (rs := [14]) (by kernel_rfl) (by simp) ?_
    refine AllReadyH.cons (o := { dst := some 135, op := Op.indexAddr 26 (Operand.tmp 131) (Operand.tmp 134), type := 0, pos := "law.go:63", after := #[{ on := 10, ground := Ground.data }, { on := 13, ground := Ground.data }, { on := 4, ground := Ground.guard }], guard := some (4, true) }) rfl (fun K hK => ?_) AllReadyH.nil
    go_simp
    refine hK.out _ _ h0 (fun h3 => ?_)
    clear hK K
    try simp only [Act.put, List.setIfInBounds_toArray, List.set_cons_zero, List.set_cons_succ]
    refine wpAnyH_take (i := 15) (oi := { dst := some 136, op := Op.load 5 (Operand.tmp 135), type := 5, pos := "law.go:63", after := #[{ on := 14, ground := Ground.data }, { on := 4, ground := Ground.guard }], guard := some (4, true) }) (v := ?vs15) rfl (by kernel_rfl) (by kernel_rfl) (by kernel_rfl) (fun _ _ _ h => h) (Or.inl ⟨by rfl, ?hys15⟩) h0 ?rests15
    case hys15 => (intro w hSw; (try dsimp only at hSw); go_simp; try with_reducible rfl)
    try simp only [Act.put, List.setIfInBounds_toArray, List.set_cons_zero, List.set_cons_succ]
    refine wpAnyH_take (i := 16) (oi := { dst := some 137, op := Op.binOp BinOp.eql 5 (Operand.tmp 136) (Operand.const (Value.int IntKind.u8 165)) 5, type := 4, pos := "law.go:63", after := #[{ on := 15, ground := Ground.data }, { on := 4, ground := Ground.guard }], guard := some (4, true) }) (v := ?vs16) rfl (by kernel_rfl) (by kernel_rfl) (by kernel_rfl) (fun _ _ _ h => h) (Or.inl ⟨by rfl, ?hys16⟩) h0 ?rests16
    case hys16 => (intro w hSw; (try dsimp only at hSw); go_simp; try with_reducible rfl)
    try simp only [Act.put, List.setIfInBounds_toArray, List.set_cons_zero, List.set_cons_succ]
    refine wpAnyH_take (i := 17) (oi := { dst := some 138, op := Op.pick (Operand.tmp 125) (Operand.tmp 137) (Operand.const (Value.bool false)), type := 4, pos := "law.go:63", after := #[{ on := 4, ground := Ground.data }, { on := 16, ground := Ground.data }], guard := none }) (v := ?vs17) rfl (by kernel_rfl) (by kernel_rfl) (by kernel_rfl) (fun _ _ _ h => h) (Or.inl ⟨by rfl, ?hys17⟩) h0 ?rests17
    case hys17 => (intro w hSw; (try dsimp only at hSw); go_simp; try with_reducible rfl)
    try simp only [Act.put, List.setIfInBounds_toArray, List.set_cons_zero, List.set_cons_succ]
    refine wpAnyH_take (i := 18) (oi := { dst := some 11, op := Op.assign (Operand.tmp 138), type := 4, pos := "law.go:63", after := #[{ on := 17, ground := Ground.data }, { on := 4, ground := Ground.chain }, { on := 0, ground := Ground.phase }, { on := 1, ground := Ground.phase }, { on := 2, ground := Ground.phase }, { on := 3, ground := Ground.phase }, { on := 4, ground := Ground.phase }, { on := 5, ground := Ground.phase }, { on := 6, ground := Ground.phase }, { on := 7, ground := Ground.phase }, { on := 8, ground := Ground.phase }, { on := 9, ground := Ground.phase }, { on := 10, ground := Ground.phase }, { on := 11, ground := Ground.phase }, { on := 12, ground := Ground.phase }, { on := 13, ground := Ground.phase }, { on := 14, ground := Ground.phase }, { on := 15, ground := Ground.phase }, { on := 16, ground := Ground.phase }, { on := 17, ground := Ground.phase }], guard := none }) (v := ?vs18) rfl (by kernel_rfl) (by kernel_rfl) (by kernel_rfl) (fun _ _ _ h => h) (Or.inl ⟨by rfl, ?hys18⟩) h0 ?rests18
    case hys18 => (intro w hSw; (try dsimp only at hSw); go_simp; try with_reducible rfl)
    try simp only [Act.put, List.setIfInBounds_toArray, List.set_cons_zero, List.set_cons_succ]
    refine wpAnyH_done (by kernel_rfl) ?_ _
    clear h0 h1 h2 h3 s1d
    clear s1 c13 h165 hrow1d hsrc1d hBw
    go_wp2_with fail
    go_loopw [12] (fun iv wr => ∃ (j : Nat) (M : List Int), j ≤ B.length ∧ B.length < M.length ∧ iv = .int .i64 j ∧ Rw 5 wr G M ∧ Kp (fun i => i = G) w1 wr) (fun i _ => B.length - (intOf i).toNat)
    case atStart => exact ⟨0, _, Nat.zero_le _, by simp, rfl, HR1.out, (Kp.refl _ _).drew⟩
    case round =>
      obtain ⟨j, M, hj, hM, rfl, rw1, kw⟩ := hrel
      by_cases hjn : j < B.length
      · have hc := rw1.cell j (by omega)
        have hf := rw1.frozen j
        have HM : Hid (B.length < M.length) := hM
        generalize M.getD j 0 = z at hc
        clear hM
        go_wp2_with fail
        go_roundw
        case rel => exact ⟨j + 1, M.set j _, by omega, by rw [List.length_set]; exact HM.out, by go_num, rw1.set j _, kw.trans (kp_setCell wr G j _ (fun i => i = G) rfl) (fun _ _ x => x)⟩
        case measure => simp [intOf]; omega
      · have hnG : ¬ gl = G := by have := HW.out.st.lt; have := HG1.out; omega
        have hnS : ¬ w.heap.size = G := by have := HG1.out; omega
        have HG : Hid (St 26 wr gl #[.slice ao N cap]) := HG26.out.kp kw hnG
        have HS : Hid (St 33 wr w.heap.size #[.int .i64 4, .int .i64 n, .int .u64 x, .slice aB B.length cB]) := HS1.out.kp kw hnS
        have c0 : wr.cell? ⟨gl, 0, none⟩ = some (.slice ao N cap) := HG.out.cell 0
        have hdm := HDM.out
        rw [h8] at hdm
        have HPUT : Hid (Put' w wr g sl (N + 8 * B.length) (v + und 256 B * 2 ^ N)) := put_row HW.out HKM.out HPT.out kw (Nat.le_of_lt HG1.out.1) HG1.out.2
        have HSW : Hid (Src wr aB B) := src_if HSC1.out kw (fun hl b off e x => by
          obtain ⟨_, _, _, h4⟩ := HF.out hl b off e
          have := HG1.out; omega)
        obtain ⟨xs, hxs⟩ : ∃ xs, xs = dig 2 v N := ⟨_, rfl⟩
        obtain ⟨ys, hys⟩ : ∃ ys, ys = dig 2 (und 256 B) (8 * B.length) := ⟨_, rfl⟩
        have HX : Hid (xs.length = N) := by show _ = _; rw [hxs, dig_length]
        have HY0 : Hid (ys.length = 8 * B.length) := by show _ = _; rw [hys, dig_length]
        have B1 : Hid (([] : List Int).length + xs.length ≤ 140737488355328) := by show _ ≤ _; have := HX.out; simp; omega
        have B2 : Hid (([] ++ xs : List Int).length + ys.length ≤ 140737488355328) := by show _ ≤ _; have := HX.out; have := HY0.out; simp; omega
        have HD : Hid (dig 2 (v + und 256 B * 2 ^ N) (N + 8 * B.length) = [] ++ xs ++ ys) := by show _ = _; rw [hxs, hys]; exact raw_join v N B HW.out.wr.1
        have TO : Hid (∀ w2, Src w2 aB B → Calls Try.prog 22 #[.slice aB B.length cB] w2 fun e w' => ∃ y, e = .returned y ∧ OwnI w' w2.heap.size y ys ∧ Below w2.heap.size w2 w') := fun w2 hs2 => by
          rw [hys]
          exact (rof_any aB cB B w2 (by have := HB.out.1; omega) HB.out.2 hs2).mono (fun e w' ⟨g3, c3, h1, h2, h3⟩ => ⟨_, h1, h2, h3⟩)
        have HK0 : Hid (Ok' wr (wr.alloc (.cells #[] 5)).drew) := ((Kp.refl _ wr).alloc _).drew
        have E0 : Hid (OwnI (wr.alloc (.cells #[] 5)).drew wr.heap.size (.slice (some ⟨wr.heap.size, 0, none⟩) 0 0) []) := (own_empty wr).drew
        have hsz : w.heap.size < wr.heap.size := HS.out.lt
        have HLT : Hid (gl < wr.heap.size) := HG.out.lt
        have HNE : Hid (¬ w.heap.size = gl) := by show ¬ _; have := HW.out.st.lt; omega
        have HSRC0 : Hid (OwnI w 0 (.slice ao N cap) xs) := by show OwnI _ _ _ _; rw [hxs]; exact HW.out.own
        have SR : Hid (Src (wr.alloc (.cells #[] 5)).drew ao xs) := put_src HW.out HPUT.out HX.out HSRC0.out HK0.out
        clear hxs hys rw1 kw hM hsz HPT HSRC0 HSC1 hnG hnS
        go_wp2_with fail
        clear c0
        refine wp_region_held_drew (S := (fun w' => w'.cell? ⟨w.heap.size, 3, none⟩ = some (.slice aB B.length cB))) (by kernel_rfl) (HS.out.drew.cell 3) (fun h0 => ?_)
        refine wpAnyH_take (i := 0) (oi := { dst := some 160, op := Op.move (Operand.tmp 1), type := 35, pos := "law.go:70", after := #[], guard := none }) (v := ?vz0) rfl (by kernel_rfl) (by kernel_rfl) (by kernel_rfl) (fun _ _ _ h => h) (Or.inl ⟨by rfl, ?hyz0⟩) h0 ?restz0
        case hyz0 => (intro w hSw; (try dsimp only at hSw); go_simp; try with_reducible rfl)
        try simp only [Act.put, List.setIfInBounds_toArray, List.set_cons_zero, List.set_cons_succ]
        refine wpAnyH_take (i := 2) (oi := { dst := some 162, op := Op.move (Operand.tmp 1), type := 35, pos := "law.go:70", after := #[], guard := none }) (v := ?vz2) rfl (by kernel_rfl) (by kernel_rfl) (by kernel_rfl) (fun _ _ _ h => h) (Or.inl ⟨by rfl, ?hyz2⟩) h0 ?restz2
        case hyz2 => (intro w hSw; (try dsimp only at hSw); go_simp; try with_reducible rfl)
        try simp only [Act.put, List.setIfInBounds_toArray, List.set_cons_zero, List.set_cons_succ]
        refine wpAnyH_take (i := 3) (oi := { dst := some 163, op := Op.nilCheck (Operand.tmp 162), type := 0, pos := "law.go:70", after := #[{ on := 2, ground := Ground.data }], guard := none }) (v := ?vz3) rfl (by kernel_rfl) (by kernel_rfl) (by kernel_rfl) (fun _ _ _ h => h) (Or.inl ⟨by rfl, ?hyz3⟩) h0 ?restz3
        case hyz3 => (intro w hSw; (try dsimp only at hSw); go_simp; try with_reducible rfl)
        try simp only [Act.put, List.setIfInBounds_toArray, List.set_cons_zero, List.set_cons_succ]
        refine wpAnyH_take (i := 6) (oi := { dst := some 166, op := Op.fieldAddr 33 (Operand.tmp 5) 3, type := 0, pos := "law.go:70", after := #[], guard := none }) (v := ?vz6) rfl (by kernel_rfl) (by kernel_rfl) (by kernel_rfl) (fun _ _ _ h => h) (Or.inl ⟨by rfl, ?hyz6⟩) h0 ?restz6
        case hyz6 => (intro w hSw; (try dsimp only at hSw); go_simp; try with_reducible rfl)
        try simp only [Act.put, List.setIfInBounds_toArray, List.set_cons_zero, List.set_cons_succ]
        refine wpAnyH_take (i := 7) (oi := { dst := some 167, op := Op.load 26 (Operand.tmp 166), type := 26, pos := "law.go:70", after := #[{ on := 6, ground := Ground.data }], guard := none }) (v := ?vz7) rfl (by kernel_rfl) (by kernel_rfl) (by kernel_rfl) (fun _ _ _ h => h) (Or.inl ⟨by rfl, ?hyz7⟩) h0 ?restz7
        case hyz7 => (intro w hSw; (try dsimp only at hSw); go_simp; try with_reducible rfl)
        try simp only [Act.put, List.setIfInBounds_toArray, List.set_cons_zero, List.set_cons_succ]
        have hA0 : (wr.alloc (.cells #[] 5)).drew.cell? ⟨gl, 0, none⟩ = some (.slice ao N cap) := (HG.out.kp HK0.out (fun x => x)).cell 0
        have hA1 : wr.drew.cell? ⟨gl, 0, none⟩ = some (.slice ao N cap) := HG.out.drew.cell 0
        have hSA : St 33 (wr.alloc (.cells #[] 5)).drew w.heap.size _ := HS.out.kp HK0.out (fun x => x)
        refine wpAnyH_ready (rs := [1, 4]) (by kernel_rfl) (by simp) ?_
        refine AllReadyH.cons (o := { dst := some 161, op := Op.buildSlice 26 0 #[], type := 26, pos := "law.go:70", after := #[], guard := none }) rfl (fun K hK => ?_) (AllReadyH.cons (o := { dst := some 164, op := Op.load 26 (Operand.tmp 163), type := 26, pos := "law.go:70", after := #[{ on := 3, ground := Ground.data }], guard := none }) rfl (fun K hK => ?_) AllReadyH.nil)
        · go_simp
          refine hK.out _ _ (hSA.cell 3) (fun h1 => ?_)
          clear hK K
          try simp only [Act.put, List.setIfInBounds_toArray, List.set_cons_zero, List.set_cons_succ]
          refine wpAnyH_ready (rs := [4]) (by kernel_rfl) (by simp) ?_
          refine AllReadyH.cons (o := { dst := some 164, op := Op.load 26 (Operand.tmp 163), type := 26, pos := "law.go:70", after := #[{ on := 3, ground := Ground.data }], guard := none }) rfl (fun K hK => ?_) AllReadyH.nil
          go_simp
          refine hK.out _ _ h1 (fun h1b => ?_)
          clear hK K
          try simp only [Act.put, List.setIfInBounds_toArray, List.set_cons_zero, List.set_cons_succ]
          refine wpAnyH_ready (rs := [5]) (by kernel_rfl) (by simp) ?_
          refine AllReadyH.cons (o := { dst := some 165, op := Op.call { callee := Callee.builtin Builtin.append, args := #[Operand.tmp 161, Operand.tmp 164], argTypes := #[26, 26] }, type := 26, pos := "law.go:70", after := #[{ on := 1, ground := Ground.data }, { on := 4, ground := Ground.data }], guard := none }) rfl (fun K hK => ?_) AllReadyH.nil
          refine step_append_i rfl (.tmp 161) (.tmp 164) rfl wr.heap.size (.slice (some ⟨wr.heap.size, 0, none⟩) 0 0) [] (by simp [Act.eval]) E0.out ao N cap xs (by simp [Act.eval]) HX.out HNIL.out SR.out B1.out (by simp) ?_
          intro v1 w2 o2 g2 n2
          have K2 : Hid (Ok' wr w2) := kp_append HK0.out E0.out g2
          have o2' : Hid (OwnI w2 wr.heap.size v1 ([] ++ xs)) := o2
          clear o2 g2 n2
          have s2 := HS.out.kp K2.out (fun x => x)
          refine hK.out _ _ (s2.cell 3) (fun h2 => ?_)
          clear hK K
          try simp only [Act.put, List.setIfInBounds_toArray, List.set_cons_zero, List.set_cons_succ]
          clear s2
          refine wpAnyH_ready (rs := [8]) (by kernel_rfl) (by simp) ?_
          refine AllReadyH.cons (o := { dst := some 168, op := Op.call { callee := Callee.value (Operand.func 22), args := #[Operand.tmp 167], argTypes := #[26] }, type := 26, pos := "law.go:70", after := #[{ on := 7, ground := Ground.data }, { on := 5, ground := Ground.chain }], guard := none }) rfl (fun K hK => ?_) AllReadyH.nil
          go_simp
          (go_at_call 22; refine (TO.out w2 (src_if HSW.out K2.out (fun _ _ _ _ x => x))).mono ?_; rintro e w3 ⟨y, rfl, oy, bw3⟩; obtain ⟨a3, m3, c3, rfl, HY, hn3, sy3⟩ := ys_form oy; clear oy)
          go_wp2_with fail
          have Kw3 : Hid (Ok' wr w3) := K2.out.trans (Kp.of_below bw3) (fun _ _ x => x)
          have ow3' : Hid (OwnI w3 wr.heap.size v1 ([] ++ xs)) := o2'.out.below bw3
          have sw3 := HS.out.kp Kw3.out (fun x => x)
          refine hK.out _ _ (sw3.cell 3) (fun h3 => ?_)
          clear hK K
          try simp only [Act.put, List.setIfInBounds_toArray, List.set_cons_zero, List.set_cons_succ]
          clear sw3 bw3
          refine wpAnyH_ready (rs := [9]) (by kernel_rfl) (by simp) ?_
          refine AllReadyH.cons (o := { dst := some 169, op := Op.call { callee := Callee.builtin Builtin.append, args := #[Operand.tmp 165, Operand.tmp 168], argTypes := #[26, 26] }, type := 26, pos := "law.go:70", after := #[{ on := 5, ground := Ground.data }, { on := 8, ground := Ground.data }, { on := 8, ground := Ground.chain }], guard := none }) rfl (fun K hK => ?_) AllReadyH.nil
          refine step_append_i rfl (.tmp 165) (.tmp 168) rfl wr.heap.size v1 ([] ++ xs) (by simp [Act.eval]) ow3'.out a3 m3 c3 ys (by simp [Act.eval]) HY.out hn3 sy3 B2.out Kw3.out.size ?_
          intro v4 w4 o4 g4 n4
          obtain ⟨a4, m4, c4, rfl, HM4, hn4, sy4⟩ := ys_form o4
          clear hn4 sy4
          have K4 : Hid (Ok' wr w4) := kp_append Kw3.out ow3'.out g4
          have o4' : Hid (OwnI w4 wr.heap.size (.slice a4 m4 c4) ([] ++ xs ++ ys)) := o4
          clear o4 g4 n4
          have s4 := HS.out.kp K4.out (fun x => x)
          refine hK.out _ _ (s4.cell 3) (fun h4 => ?_)
          clear hK K
          try simp only [Act.put, List.setIfInBounds_toArray, List.set_cons_zero, List.set_cons_succ]
          refine wpAnyH_take (i := 10) (oi := { dst := some 170, op := Op.nilCheck (Operand.tmp 160), type := 0, pos := "law.go:70", after := #[{ on := 0, ground := Ground.data }, { on := 0, ground := Ground.phase }, { on := 1, ground := Ground.phase }, { on := 2, ground := Ground.phase }, { on := 3, ground := Ground.phase }, { on := 4, ground := Ground.phase }, { on := 5, ground := Ground.phase }, { on := 6, ground := Ground.phase }, { on := 7, ground := Ground.phase }, { on := 8, ground := Ground.phase }, { on := 9, ground := Ground.phase }], guard := none }) (v := ?vzx10) rfl (by kernel_rfl) (by kernel_rfl) (by kernel_rfl) (fun _ _ _ h => h) (Or.inl ⟨by rfl, ?hyzx10⟩) h4 ?restzx10
          case hyzx10 => (intro w hSw; (try dsimp only at hSw); go_simp; try with_reducible rfl)
          try simp only [Act.put, List.setIfInBounds_toArray, List.set_cons_zero, List.set_cons_succ]
          have t4 := HG.out.kp K4.out (fun x => x)
          have d4 : w4.cell? ⟨gl, 0, none⟩ = some (.slice ao N cap) := t4.cell 0
          have f4 : w4.frozen? ⟨gl, 0, none⟩ = false := t4.frozen 0
          refine wpAnyH_ready (rs := [11]) (by kernel_rfl) (by simp) ?_
          refine AllReadyH.cons (o := { dst := none, op := Op.store 26 (Operand.tmp 170) (Operand.tmp 169), type := 0, pos := "law.go:70", after := #[{ on := 10, ground := Ground.data }, { on := 9, ground := Ground.data }, { on := 9, ground := Ground.chain }, { on := 0, ground := Ground.phase }, { on := 1, ground := Ground.phase }, { on := 2, ground := Ground.phase }, { on := 3, ground := Ground.phase }, { on := 4, ground := Ground.phase }, { on := 5, ground := Ground.phase }, { on := 6, ground := Ground.phase }, { on := 7, ground := Ground.phase }, { on := 8, ground := Ground.phase }, { on := 9, ground := Ground.phase }], guard := none }) rfl (fun K hK => ?_) AllReadyH.nil
          go_simp
          obtain ⟨kS, tS, oS⟩ := kp_store K4.out HG.out (.slice a4 m4 c4) o4'.out HLT.out
          have s5 := HS.out.kp kS HNE.out
          refine hK.out _ _ (s5.cell 3) (fun h5 => ?_)
          clear hK K
          try simp only [Act.put, List.setIfInBounds_toArray, List.set_cons_zero, List.set_cons_succ]
          refine wpAnyH_done (by kernel_rfl) ?_ _
          clear h4 h5 h2 h0 s4 s5 d4 f4 t4
          go_wp2_with (go_at_call 16; refine (num_any _ _).mono ?_; rintro e w' ⟨rfl, rfl⟩)
          go_ret
          exact ⟨rfl, stp_done HW.out HPUT.out kS tS (by rw [HD.out]; exact oS) (by have := HB.out.1; omega)⟩
        · go_simp
          refine hK.out _ _ h0 (fun h1 => ?_)
          clear hK K
          try simp only [Act.put, List.setIfInBounds_toArray, List.set_cons_zero, List.set_cons_succ]
          refine wpAnyH_ready (rs := [1]) (by kernel_rfl) (by simp) ?_
          refine AllReadyH.cons (o := { dst := some 161, op := Op.buildSlice 26 0 #[], type := 26, pos := "law.go:70", after := #[], guard := none }) rfl (fun K hK => ?_) AllReadyH.nil
          go_simp
          refine hK.out _ _ (hSA.cell 3) (fun h1b => ?_)
          clear hK K
          try simp only [Act.put, List.setIfInBounds_toArray, List.set_cons_zero, List.set_cons_succ]
          refine wpAnyH_ready (rs := [5]) (by kernel_rfl) (by simp) ?_
          refine AllReadyH.cons (o := { dst := some 165, op := Op.call { callee := Callee.builtin Builtin.append, args := #[Operand.tmp 161, Operand.tmp 164], argTypes := #[26, 26] }, type := 26, pos := "law.go:70", after := #[{ on := 1, ground := Ground.data }, { on := 4, ground := Ground.data }], guard := none }) rfl (fun K hK => ?_) AllReadyH.nil
          refine step_append_i rfl (.tmp 161) (.tmp 164) rfl wr.heap.size (.slice (some ⟨wr.heap.size, 0, none⟩) 0 0) [] (by simp [Act.eval]) E0.out ao N cap xs (by simp [Act.eval]) HX.out HNIL.out SR.out B1.out (by simp) ?_
          intro v1 w2 o2 g2 n2
          have K2 : Hid (Ok' wr w2) := kp_append HK0.out E0.out g2
          have o2' : Hid (OwnI w2 wr.heap.size v1 ([] ++ xs)) := o2
          clear o2 g2 n2
          have s2 := HS.out.kp K2.out (fun x => x)
          refine hK.out _ _ (s2.cell 3) (fun h2 => ?_)
          clear hK K
          try simp only [Act.put, List.setIfInBounds_toArray, List.set_cons_zero, List.set_cons_succ]
          clear s2
          refine wpAnyH_ready (rs := [8]) (by kernel_rfl) (by simp) ?_
          refine AllReadyH.cons (o := { dst := some 168, op := Op.call { callee := Callee.value (Operand.func 22), args := #[Operand.tmp 167], argTypes := #[26] }, type := 26, pos := "law.go:70", after := #[{ on := 7, ground := Ground.data }, { on := 5, ground := Ground.chain }], guard := none }) rfl (fun K hK => ?_) AllReadyH.nil
          go_simp
          (go_at_call 22; refine (TO.out w2 (src_if HSW.out K2.out (fun _ _ _ _ x => x))).mono ?_; rintro e w3 ⟨y, rfl, oy, bw3⟩; obtain ⟨a3, m3, c3, rfl, HY, hn3, sy3⟩ := ys_form oy; clear oy)
          go_wp2_with fail
          have Kw3 : Hid (Ok' wr w3) := K2.out.trans (Kp.of_below bw3) (fun _ _ x => x)
          have ow3' : Hid (OwnI w3 wr.heap.size v1 ([] ++ xs)) := o2'.out.below bw3
          have sw3 := HS.out.kp Kw3.out (fun x => x)
          refine hK.out _ _ (sw3.cell 3) (fun h3 => ?_)
          clear hK K
          try simp only [Act.put, List.setIfInBounds_toArray, List.set_cons_zero, List.set_cons_succ]
          clear sw3 bw3
          refine wpAnyH_ready (rs := [9]) (by kernel_rfl) (by simp) ?_
          refine AllReadyH.cons (o := { dst := some 169, op := Op.call { callee := Callee.builtin Builtin.append, args := #[Operand.tmp 165, Operand.tmp 168], argTypes := #[26, 26] }, type := 26, pos := "law.go:70", after := #[{ on := 5, ground := Ground.data }, { on := 8, ground := Ground.data }, { on := 8, ground := Ground.chain }], guard := none }) rfl (fun K hK => ?_) AllReadyH.nil
          refine step_append_i rfl (.tmp 165) (.tmp 168) rfl wr.heap.size v1 ([] ++ xs) (by simp [Act.eval]) ow3'.out a3 m3 c3 ys (by simp [Act.eval]) HY.out hn3 sy3 B2.out Kw3.out.size ?_
          intro v4 w4 o4 g4 n4
          obtain ⟨a4, m4, c4, rfl, HM4, hn4, sy4⟩ := ys_form o4
          clear hn4 sy4
          have K4 : Hid (Ok' wr w4) := kp_append Kw3.out ow3'.out g4
          have o4' : Hid (OwnI w4 wr.heap.size (.slice a4 m4 c4) ([] ++ xs ++ ys)) := o4
          clear o4 g4 n4
          have s4 := HS.out.kp K4.out (fun x => x)
          refine hK.out _ _ (s4.cell 3) (fun h4 => ?_)
          clear hK K
          try simp only [Act.put, List.setIfInBounds_toArray, List.set_cons_zero, List.set_cons_succ]
          refine wpAnyH_take (i := 10) (oi := { dst := some 170, op := Op.nilCheck (Operand.tmp 160), type := 0, pos := "law.go:70", after := #[{ on := 0, ground := Ground.data }, { on := 0, ground := Ground.phase }, { on := 1, ground := Ground.phase }, { on := 2, ground := Ground.phase }, { on := 3, ground := Ground.phase }, { on := 4, ground := Ground.phase }, { on := 5, ground := Ground.phase }, { on := 6, ground := Ground.phase }, { on := 7, ground := Ground.phase }, { on := 8, ground := Ground.phase }, { on := 9, ground := Ground.phase }], guard := none }) (v := ?vzy10) rfl (by kernel_rfl) (by kernel_rfl) (by kernel_rfl) (fun _ _ _ h => h) (Or.inl ⟨by rfl, ?hyzy10⟩) h4 ?restzy10
          case hyzy10 => (intro w hSw; (try dsimp only at hSw); go_simp; try with_reducible rfl)
          try simp only [Act.put, List.setIfInBounds_toArray, List.set_cons_zero, List.set_cons_succ]
          have t4 := HG.out.kp K4.out (fun x => x)
          have d4 : w4.cell? ⟨gl, 0, none⟩ = some (.slice ao N cap) := t4.cell 0
          have f4 : w4.frozen? ⟨gl, 0, none⟩ = false := t4.frozen 0
          refine wpAnyH_ready (rs := [11]) (by kernel_rfl) (by simp) ?_
          refine AllReadyH.cons (o := { dst := none, op := Op.store 26 (Operand.tmp 170) (Operand.tmp 169), type := 0, pos := "law.go:70", after := #[{ on := 10, ground := Ground.data }, { on := 9, ground := Ground.data }, { on := 9, ground := Ground.chain }, { on := 0, ground := Ground.phase }, { on := 1, ground := Ground.phase }, { on := 2, ground := Ground.phase }, { on := 3, ground := Ground.phase }, { on := 4, ground := Ground.phase }, { on := 5, ground := Ground.phase }, { on := 6, ground := Ground.phase }, { on := 7, ground := Ground.phase }, { on := 8, ground := Ground.phase }, { on := 9, ground := Ground.phase }], guard := none }) rfl (fun K hK => ?_) AllReadyH.nil
          go_simp
          obtain ⟨kS, tS, oS⟩ := kp_store K4.out HG.out (.slice a4 m4 c4) o4'.out HLT.out
          have s5 := HS.out.kp kS HNE.out
          refine hK.out _ _ (s5.cell 3) (fun h5 => ?_)
          clear hK K
          try simp only [Act.put, List.setIfInBounds_toArray, List.set_cons_zero, List.set_cons_succ]
          refine wpAnyH_done (by kernel_rfl) ?_ _
          clear h4 h5 h2 h0 s4 s5 d4 f4 t4
          go_wp2_with (go_at_call 16; refine (num_any _ _).mono ?_; rintro e w' ⟨rfl, rfl⟩)
          go_ret
          exact ⟨rfl, stp_done HW.out HPUT.out kS tS (by rw [HD.out]; exact oS) (by have := HB.out.1; omega)⟩
end Go.Proofs.Ytfeokjbmobmabaa
