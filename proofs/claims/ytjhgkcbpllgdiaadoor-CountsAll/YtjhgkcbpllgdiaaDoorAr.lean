/- CountsAll: its beginning. -/
import Derived.Test.YtjhgkcbpllgdiaaDoorAs
namespace Go.Proofs.YtjhgkcbpllgdiaaDoor
open Go.RowKit Go.Shelf
attribute [local go_sem] Oper.semAt_some
set_option linter.unusedVariables false
def c1 : Code := (Go.Code.region 1 #[{ dst := some 28, op := Go.Op.fieldAddr 48 (Go.Operand.tmp 3) 0, type := 0, pos := "law.go:85", after := #[], guard := none }, { dst := some 29, op := Go.Op.load 3 (Go.Operand.tmp 28), type := 3, pos := "law.go:85", after := #[{ on := 0, ground := Go.Ground.data }], guard := none }, { dst := some 30, op := Go.Op.fieldAddr 48 (Go.Operand.tmp 3) 1, type := 0, pos := "law.go:85", after := #[{ on := 8, ground := Go.Ground.gcOnly Go.Departure.lateStores }], guard := none }, { dst := some 31, op := Go.Op.load 3 (Go.Operand.tmp 30), type := 3, pos := "law.go:85", after := #[{ on := 2, ground := Go.Ground.data }, { on := 8, ground := Go.Ground.gcOnly Go.Departure.lateStores }], guard := none }, { dst := some 32, op := Go.Op.fieldAddr 48 (Go.Operand.tmp 3) 2, type := 0, pos := "law.go:85", after := #[{ on := 9, ground := Go.Ground.gcOnly Go.Departure.lateStores }], guard := none }, { dst := some 33, op := Go.Op.load 3 (Go.Operand.tmp 32), type := 3, pos := "law.go:85", after := #[{ on := 4, ground := Go.Ground.data }, { on := 9, ground := Go.Ground.gcOnly Go.Departure.lateStores }], guard := none }, { dst := some 5, op := Go.Op.alloc 3, type := 0, pos := "law.go:85", after := #[], guard := none }, { dst := some 7, op := Go.Op.alloc 3, type := 0, pos := "law.go:85", after := #[], guard := none }, { dst := none, op := Go.Op.store 3 (Go.Operand.tmp 5) (Go.Operand.tmp 29), type := 0, pos := "law.go:85", after := #[{ on := 6, ground := Go.Ground.data }, { on := 1, ground := Go.Ground.data }, { on := 0, ground := Go.Ground.phase }, { on := 1, ground := Go.Ground.phase }, { on := 2, ground := Go.Ground.textOnly Go.Departure.lateStores }, { on := 3, ground := Go.Ground.textOnly Go.Departure.lateStores }, { on := 4, ground := Go.Ground.textOnly Go.Departure.lateStores }, { on := 5, ground := Go.Ground.textOnly Go.Departure.lateStores }, { on := 6, ground := Go.Ground.phase }, { on := 7, ground := Go.Ground.phase }], guard := none }, { dst := some 6, op := Go.Op.assign (Go.Operand.tmp 31), type := 3, pos := "law.go:85", after := #[{ on := 3, ground := Go.Ground.data }, { on := 8, ground := Go.Ground.chain }, { on := 0, ground := Go.Ground.phase }, { on := 1, ground := Go.Ground.phase }, { on := 2, ground := Go.Ground.phase }, { on := 3, ground := Go.Ground.phase }, { on := 4, ground := Go.Ground.textOnly Go.Departure.lateStores }, { on := 5, ground := Go.Ground.textOnly Go.Departure.lateStores }, { on := 6, ground := Go.Ground.phase }, { on := 7, ground := Go.Ground.phase }, { on := 8, ground := Go.Ground.phase }], guard := none }, { dst := none, op := Go.Op.store 3 (Go.Operand.tmp 7) (Go.Operand.tmp 33), type := 0, pos := "law.go:85", after := #[{ on := 7, ground := Go.Ground.data }, { on := 5, ground := Go.Ground.data }, { on := 9, ground := Go.Ground.chain }, { on := 0, ground := Go.Ground.phase }, { on := 1, ground := Go.Ground.phase }, { on := 2, ground := Go.Ground.phase }, { on := 3, ground := Go.Ground.phase }, { on := 4, ground := Go.Ground.phase }, { on := 5, ground := Go.Ground.phase }, { on := 6, ground := Go.Ground.phase }, { on := 7, ground := Go.Ground.phase }, { on := 8, ground := Go.Ground.phase }, { on := 9, ground := Go.Ground.phase }], guard := none }] true)
def eP (T2 T3 T4 T5 T7 : Nat) (ao : Option Addr) (n cap : Nat) (t : Int) (f : Nat → Value) : Array Value := #[.slice ao n cap, f 1, .pointer (some ⟨T2, 0, none⟩), .pointer (some ⟨T3, 0, none⟩), .pointer (some ⟨T4, 0, none⟩), .pointer (some ⟨T5, 0, none⟩), .int .i64 t, .pointer (some ⟨T7, 0, none⟩), f 8, f 9, f 10, f 11, f 12, f 13, f 14, f 15, f 16, f 17, f 18, f 19, f 20, f 21, f 22, f 23, f 24, f 25, f 26, f 27, f 28, f 29, f 30, f 31, f 32, f 33, f 34, f 35, f 36, f 37, f 38, f 39, f 40, f 41, f 42, f 43, f 44, f 45, f 46, f 47, f 48, f 49, f 50, f 51, f 52, f 53, f 54, f 55, f 56, f 57, f 58, f 59, f 60, f 61, f 62, f 63, f 64, f 65, f 66, f 67, f 68, f 69, f 70, f 71, f 72, f 73, f 74, f 75, f 76, f 77, f 78, f 79, f 80, f 81, f 82, f 83, f 84, f 85, f 86, f 87, f 88, f 89, f 90, f 91, f 92, f 93, f 94, f 95, f 96, f 97, f 98, f 99, f 100, f 101, f 102, f 103, f 104, f 105, f 106, f 107, f 108, f 109, f 110, f 111, f 112, f 113, f 114, f 115, f 116, f 117, f 118, f 119, f 120, f 121, f 122, f 123, f 124, f 125, f 126, f 127, f 128, f 129, f 130, f 131, f 132, f 133, f 134, f 135, f 136, f 137, f 138, f 139, f 140, f 141, f 142, f 143, f 144, f 145, f 146, f 147, f 148, f 149, f 150, f 151, f 152, f 153, f 154, f 155, f 156, f 157, f 158, f 159, f 160, f 161, f 162, f 163, f 164, f 165, f 166, f 167, f 168, f 169, f 170, f 171, f 172, f 173, f 174, f 175, f 176, f 177, f 178, f 179, f 180, f 181, f 182, f 183, f 184, f 185, f 186, f 187, f 188, f 189, f 190, f 191, f 192, f 193, f 194, f 195, f 196, f 197, f 198, f 199, f 200, f 201, f 202, f 203, f 204, f 205, f 206, f 207, f 208, f 209, f 210]
/-- The boxes, made. -/
structure Bx (w0 X : World) (T2 T3 T4 T5 T7 : Nat) (o lv : Int) : Prop where
  kp : Kp (fun _ => False) w0 X
  s5 : St 3 X T5 #[.int .i64 o]
  s7 : St 3 X T7 #[.int .i64 lv]
def C1P (w : World) (T2 T3 T4 : Nat) (ao : Option Addr) (n cap : Nat) (o t lv : Int) (a' : Act) (Z : World) : Prop := ∃ T5 T7, (∃ f', a' = { tmps := eP T2 T3 T4 T5 T7 ao n cap t f', defers := [] }) ∧ Bx w Z T2 T3 T4 T5 T7 o lv
set_option maxRecDepth 100000 in
set_option maxHeartbeats 8000000 in
theorem c1_wp (w : World) (T2 T3 T4 : Nat) (ao : Option Addr) (n cap : Nat) (o t lv : Int) (A : Act) (hA : A = { tmps := #[.slice ao n cap, .agg #[.int .i64 o, .int .i64 t, .int .i64 lv], .pointer (some ⟨T2, 0, none⟩), .pointer (some ⟨T3, 0, none⟩), .pointer (some ⟨T4, 0, none⟩), undef, undef, undef, undef, undef, undef, undef, undef, undef, undef, undef, undef, undef, undef, undef, undef, undef, undef, undef, undef, undef, undef, undef, undef, undef, undef, undef, undef, undef, undef, undef, undef, undef, undef, undef, undef, undef, undef, undef, undef, undef, undef, undef, undef, undef, undef, undef, undef, undef, undef, undef, undef, undef, undef, undef, undef, undef, undef, undef, undef, undef, undef, undef, undef, undef, undef, undef, undef, undef, undef, undef, undef, undef, undef, undef, undef, undef, undef, undef, undef, undef, undef, undef, undef, undef, undef, undef, undef, undef, undef, undef, undef, undef, undef, undef, undef, undef, undef, undef, undef, undef, undef, undef, undef, undef, undef, undef, undef, undef, undef, undef, undef, undef, undef, undef, undef, undef, undef, undef, undef, undef, undef, undef, undef, undef, undef, undef, undef, undef, undef, undef, undef, undef, undef, undef, undef, undef, undef, undef, undef, undef, undef, undef, undef, undef, undef, undef, undef, undef, undef, undef, undef, undef, undef, undef, undef, undef, undef, undef, undef, undef, undef, undef, undef, undef, undef, undef, undef, undef, undef, undef, undef, undef, undef, undef, undef, undef, undef, undef, undef, undef, undef, undef, undef, undef, undef, undef, undef, undef, undef, undef, undef, undef, undef, undef, undef, undef, undef, undef, undef, undef, undef, undef, undef, undef, undef], defers := [] }) (s3 : St 48 w T3 #[.int .i64 o, .int .i64 t, .int .i64 lv]) :
    c1.wpIn Fence.wide 20 Tryd.prog (postN (C1P w T2 T3 T4 ao n cap o t lv)) A w := by
  subst hA
  have hmx : Tryd.prog.follows .mixedOrders = true := hmix
  have KD : Hid (Kp (fun _ => False) w w.drew) := (Kp.refl _ _).drew
  have q0 : w.cell? ⟨T3, 0, none⟩ = some (.int .i64 o) := s3.cell 0
  have q1 : w.cell? ⟨T3, 1, none⟩ = some (.int .i64 t) := s3.cell 1
  have q2 : w.cell? ⟨T3, 2, none⟩ = some (.int .i64 lv) := s3.cell 2
  have l3 := s3.lt
  clear s3
  unfold c1
  refine wpIn_wide.2 ?_
  refine wp_region_held_drew (S := fun w' => Kp (fun _ => False) w w') (by kernel_rfl) KD.out (fun h0 => ?_)
  refine wpAnyH_take (i := 0) (oi := { dst := some 28, op := Go.Op.fieldAddr 48 (Go.Operand.tmp 3) 0, type := 0, pos := "law.go:85", after := #[], guard := none }) (v := ?va0) rfl (by kernel_rfl) (by kernel_rfl) (by kernel_rfl) (fun _ _ _ h => h) (Or.inl ⟨by rfl, ?hya0⟩) h0 ?resta0
  case hya0 => (intro w' hSw; (try dsimp only at hSw); go_simp; try with_reducible rfl)
  try simp only [Act.put, List.setIfInBounds_toArray, List.set_cons_zero, List.set_cons_succ]
  refine wpAnyH_take (i := 1) (oi := { dst := some 29, op := Go.Op.load 3 (Go.Operand.tmp 28), type := 3, pos := "law.go:85", after := #[{ on := 0, ground := Go.Ground.data }], guard := none }) (v := ?va1) rfl (by kernel_rfl) (by kernel_rfl) (by kernel_rfl) (fun _ _ _ h => h) (Or.inl ⟨by rfl, ?hya1⟩) h0 ?resta1
  case hya1 => (intro w' hSw; (try dsimp only at hSw); have y := hSw.cell q0; go_simp; try with_reducible rfl)
  try simp only [Act.put, List.setIfInBounds_toArray, List.set_cons_zero, List.set_cons_succ]
  refine wpAnyH_take (i := 2) (oi := { dst := some 30, op := Go.Op.fieldAddr 48 (Go.Operand.tmp 3) 1, type := 0, pos := "law.go:85", after := #[{ on := 8, ground := Go.Ground.gcOnly Go.Departure.lateStores }], guard := none }) (v := ?va2) rfl (by kernel_rfl) (by kernel_rfl) (by kernel_rfl) (fun _ _ _ h => h) (Or.inl ⟨by rfl, ?hya2⟩) h0 ?resta2
  case hya2 => (intro w' hSw; (try dsimp only at hSw); go_simp; try with_reducible rfl)
  try simp only [Act.put, List.setIfInBounds_toArray, List.set_cons_zero, List.set_cons_succ]
  refine wpAnyH_take (i := 3) (oi := { dst := some 31, op := Go.Op.load 3 (Go.Operand.tmp 30), type := 3, pos := "law.go:85", after := #[{ on := 2, ground := Go.Ground.data }, { on := 8, ground := Go.Ground.gcOnly Go.Departure.lateStores }], guard := none }) (v := ?va3) rfl (by kernel_rfl) (by kernel_rfl) (by kernel_rfl) (fun _ _ _ h => h) (Or.inl ⟨by rfl, ?hya3⟩) h0 ?resta3
  case hya3 => (intro w' hSw; (try dsimp only at hSw); have y := hSw.cell q1; go_simp; try with_reducible rfl)
  try simp only [Act.put, List.setIfInBounds_toArray, List.set_cons_zero, List.set_cons_succ]
  refine wpAnyH_take (i := 4) (oi := { dst := some 32, op := Go.Op.fieldAddr 48 (Go.Operand.tmp 3) 2, type := 0, pos := "law.go:85", after := #[{ on := 9, ground := Go.Ground.gcOnly Go.Departure.lateStores }], guard := none }) (v := ?va4) rfl (by kernel_rfl) (by kernel_rfl) (by kernel_rfl) (fun _ _ _ h => h) (Or.inl ⟨by rfl, ?hya4⟩) h0 ?resta4
  case hya4 => (intro w' hSw; (try dsimp only at hSw); go_simp; try with_reducible rfl)
  try simp only [Act.put, List.setIfInBounds_toArray, List.set_cons_zero, List.set_cons_succ]
  refine wpAnyH_take (i := 5) (oi := { dst := some 33, op := Go.Op.load 3 (Go.Operand.tmp 32), type := 3, pos := "law.go:85", after := #[{ on := 4, ground := Go.Ground.data }, { on := 9, ground := Go.Ground.gcOnly Go.Departure.lateStores }], guard := none }) (v := ?va5) rfl (by kernel_rfl) (by kernel_rfl) (by kernel_rfl) (fun _ _ _ h => h) (Or.inl ⟨by rfl, ?hya5⟩) h0 ?resta5
  case hya5 => (intro w' hSw; (try dsimp only at hSw); have y := hSw.cell q2; go_simp; try with_reducible rfl)
  try simp only [Act.put, List.setIfInBounds_toArray, List.set_cons_zero, List.set_cons_succ]
  refine wpAnyH_ready (rs := [6, 7]) (by kernel_rfl) (by simp) ?_
  refine AllReadyH.cons (o := { dst := some 5, op := Go.Op.alloc 3, type := 0, pos := "law.go:85", after := #[], guard := none }) rfl (fun K hK => ?_) (AllReadyH.cons (o := { dst := some 7, op := Go.Op.alloc 3, type := 0, pos := "law.go:85", after := #[], guard := none }) rfl (fun K hK => ?_) AllReadyH.nil)
  · go_simp
    have ha : Kp (fun _ => False) w (w.drew.alloc (.cells #[.int .i64 0] 3)) := h0.alloc _
    refine hK.out _ _ ha (fun h1 => ?_)
    clear hK K
    refine wpAnyH_ready (rs := [7]) (by kernel_rfl) (by simp) ?_
    refine AllReadyH.cons (o := { dst := some 7, op := Go.Op.alloc 3, type := 0, pos := "law.go:85", after := #[], guard := none }) rfl (fun K hK => ?_) AllReadyH.nil
    go_simp
    have hb : Kp (fun _ => False) w ((w.drew.alloc (.cells #[.int .i64 0] 3)).alloc (.cells #[.int .i64 0] 3)) := ha.alloc _
    refine hK.out _ _ hb (fun h2 => ?_)
    clear hK K
    have z0 := (St.new 3 w #[.int .i64 0]).kp (((Kp.refl (fun _ => False) _).alloc (.cells #[.int .i64 0] 3)).drew) (fun x => x)
    have z1 := (St.new 3 (w.alloc (.cells #[.int .i64 0] 3)) #[.int .i64 0]).kp ((Kp.refl (fun _ => False) _).drew) (fun x => x)
    rw [World.size_alloc] at z1
    obtain ⟨V, hV⟩ : ∃ V, V = ((w.alloc (.cells #[.int .i64 0] 3)).alloc (.cells #[.int .i64 0] 3)).drew := ⟨_, rfl⟩
    rw [← hV] at z0 z1 h2 ⊢
    clear hV hb ha h1
    obtain ⟨T5, h5⟩ : ∃ k, k = w.heap.size := ⟨_, rfl⟩
    obtain ⟨T7, h7⟩ : ∃ k, k = w.heap.size + 1 := ⟨_, rfl⟩
    have e57 : T5 ≠ T7 := by omega
    have g5 : w.heap.size ≤ T5 := by omega
    have g7 : w.heap.size ≤ T7 := by omega
    rw [← h5] at z0
    rw [← h7] at z1
    rw [← h7, ← h5]
    clear h5 h7
    have S5 := hid z0
    have S7 := hid z1
    have y5 : V.cell? ⟨T5, 0, none⟩ = some (.int .i64 0) := S5.out.cell 0
    have f5 : V.frozen? ⟨T5, 0, none⟩ = false := S5.out.frozen 0
    have k5 := kp_setCell V T5 0 (.int .i64 o) (fun j => j = T5) rfl
    have u7 := S7.out.kp k5 (fun e => e57 e.symm)
    have y7 : (V.setCell ⟨T5, 0, none⟩ (.int .i64 o)).cell? ⟨T7, 0, none⟩ = some (.int .i64 0) := u7.cell 0
    have f7 : (V.setCell ⟨T5, 0, none⟩ (.int .i64 o)).frozen? ⟨T7, 0, none⟩ = false := u7.frozen 0
    have k7 := kp_setCell (V.setCell ⟨T5, 0, none⟩ (.int .i64 o)) T7 0 (.int .i64 lv) (fun j => j = T7) rfl
    have s5 : Kp (fun _ => False) w (V.setCell ⟨T5, 0, none⟩ (.int .i64 o)) := h2.trans k5 (fun i h1 h2 => by omega)
    have s7 : Kp (fun _ => False) w ((V.setCell ⟨T5, 0, none⟩ (.int .i64 o)).setCell ⟨T7, 0, none⟩ (.int .i64 lv)) := s5.trans k7 (fun i h1 h2 => by omega)
    have r5 := (S5.out.set 0 (.int .i64 o)).kp k7 (by omega)
    have r7 := u7.set 0 (.int .i64 lv)
    have BX : Hid (Bx w ((V.setCell ⟨T5, 0, none⟩ (.int .i64 o)).setCell ⟨T7, 0, none⟩ (.int .i64 lv)) T2 T3 T4 T5 T7 o lv) := ⟨s7, by simpa using r5, by simpa using r7⟩
    clear z0 z1 S5 S7 k5 u7 k7 r5 r7 q0 q1 q2
    refine wpAnyH_ready (rs := [8]) (by kernel_rfl) (by simp) ?_
    refine AllReadyH.cons (o := { dst := none, op := Go.Op.store 3 (Go.Operand.tmp 5) (Go.Operand.tmp 29), type := 0, pos := "law.go:85", after := #[{ on := 6, ground := Go.Ground.data }, { on := 1, ground := Go.Ground.data }, { on := 0, ground := Go.Ground.phase }, { on := 1, ground := Go.Ground.phase }, { on := 2, ground := Go.Ground.textOnly Go.Departure.lateStores }, { on := 3, ground := Go.Ground.textOnly Go.Departure.lateStores }, { on := 4, ground := Go.Ground.textOnly Go.Departure.lateStores }, { on := 5, ground := Go.Ground.textOnly Go.Departure.lateStores }, { on := 6, ground := Go.Ground.phase }, { on := 7, ground := Go.Ground.phase }], guard := none }) rfl (fun K hK => ?_) AllReadyH.nil
    go_simp
    refine hK.out _ _ s5 (fun h3 => ?_)
    clear hK K
    try simp only [Act.put, List.setIfInBounds_toArray, List.set_cons_zero, List.set_cons_succ]
    refine wpAnyH_ready (rs := [9]) (by kernel_rfl) (by simp) ?_
    refine AllReadyH.cons (o := { dst := some 6, op := Go.Op.assign (Go.Operand.tmp 31), type := 3, pos := "law.go:85", after := #[{ on := 3, ground := Go.Ground.data }, { on := 8, ground := Go.Ground.chain }, { on := 0, ground := Go.Ground.phase }, { on := 1, ground := Go.Ground.phase }, { on := 2, ground := Go.Ground.phase }, { on := 3, ground := Go.Ground.phase }, { on := 4, ground := Go.Ground.textOnly Go.Departure.lateStores }, { on := 5, ground := Go.Ground.textOnly Go.Departure.lateStores }, { on := 6, ground := Go.Ground.phase }, { on := 7, ground := Go.Ground.phase }, { on := 8, ground := Go.Ground.phase }], guard := none }) rfl (fun K hK => ?_) AllReadyH.nil
    go_simp
    refine hK.out _ _ s5 (fun h3 => ?_)
    clear hK K
    try simp only [Act.put, List.setIfInBounds_toArray, List.set_cons_zero, List.set_cons_succ]
    refine wpAnyH_ready (rs := [10]) (by kernel_rfl) (by simp) ?_
    refine AllReadyH.cons (o := { dst := none, op := Go.Op.store 3 (Go.Operand.tmp 7) (Go.Operand.tmp 33), type := 0, pos := "law.go:85", after := #[{ on := 7, ground := Go.Ground.data }, { on := 5, ground := Go.Ground.data }, { on := 9, ground := Go.Ground.chain }, { on := 0, ground := Go.Ground.phase }, { on := 1, ground := Go.Ground.phase }, { on := 2, ground := Go.Ground.phase }, { on := 3, ground := Go.Ground.phase }, { on := 4, ground := Go.Ground.phase }, { on := 5, ground := Go.Ground.phase }, { on := 6, ground := Go.Ground.phase }, { on := 7, ground := Go.Ground.phase }, { on := 8, ground := Go.Ground.phase }, { on := 9, ground := Go.Ground.phase }], guard := none }) rfl (fun K hK => ?_) AllReadyH.nil
    go_simp
    refine hK.out _ _ s7 (fun h3 => ?_)
    clear hK K
    try simp only [Act.put, List.setIfInBounds_toArray, List.set_cons_zero, List.set_cons_succ]
    refine wpAnyH_done (by kernel_rfl) ?_ _
    exact ⟨T5, T7, act_of (by kernel_rfl) rfl, BX.out⟩
  · go_simp
    have ha : Kp (fun _ => False) w (w.drew.alloc (.cells #[.int .i64 0] 3)) := h0.alloc _
    refine hK.out _ _ ha (fun h1 => ?_)
    clear hK K
    refine wpAnyH_ready (rs := [6]) (by kernel_rfl) (by simp) ?_
    refine AllReadyH.cons (o := { dst := some 5, op := Go.Op.alloc 3, type := 0, pos := "law.go:85", after := #[], guard := none }) rfl (fun K hK => ?_) AllReadyH.nil
    go_simp
    have hb : Kp (fun _ => False) w ((w.drew.alloc (.cells #[.int .i64 0] 3)).alloc (.cells #[.int .i64 0] 3)) := ha.alloc _
    refine hK.out _ _ hb (fun h2 => ?_)
    clear hK K
    have z0 := (St.new 3 w #[.int .i64 0]).kp (((Kp.refl (fun _ => False) _).alloc (.cells #[.int .i64 0] 3)).drew) (fun x => x)
    have z1 := (St.new 3 (w.alloc (.cells #[.int .i64 0] 3)) #[.int .i64 0]).kp ((Kp.refl (fun _ => False) _).drew) (fun x => x)
    rw [World.size_alloc] at z1
    obtain ⟨V, hV⟩ : ∃ V, V = ((w.alloc (.cells #[.int .i64 0] 3)).alloc (.cells #[.int .i64 0] 3)).drew := ⟨_, rfl⟩
    rw [← hV] at z0 z1 h2 ⊢
    clear hV hb ha h1
    obtain ⟨T5, h5⟩ : ∃ k, k = w.heap.size + 1 := ⟨_, rfl⟩
    obtain ⟨T7, h7⟩ : ∃ k, k = w.heap.size := ⟨_, rfl⟩
    have e57 : T5 ≠ T7 := by omega
    have g5 : w.heap.size ≤ T5 := by omega
    have g7 : w.heap.size ≤ T7 := by omega
    rw [← h5] at z1
    rw [← h7] at z0
    rw [← h5, ← h7]
    clear h5 h7
    have S5 := hid z1
    have S7 := hid z0
    have y5 : V.cell? ⟨T5, 0, none⟩ = some (.int .i64 0) := S5.out.cell 0
    have f5 : V.frozen? ⟨T5, 0, none⟩ = false := S5.out.frozen 0
    have k5 := kp_setCell V T5 0 (.int .i64 o) (fun j => j = T5) rfl
    have u7 := S7.out.kp k5 (fun e => e57 e.symm)
    have y7 : (V.setCell ⟨T5, 0, none⟩ (.int .i64 o)).cell? ⟨T7, 0, none⟩ = some (.int .i64 0) := u7.cell 0
    have f7 : (V.setCell ⟨T5, 0, none⟩ (.int .i64 o)).frozen? ⟨T7, 0, none⟩ = false := u7.frozen 0
    have k7 := kp_setCell (V.setCell ⟨T5, 0, none⟩ (.int .i64 o)) T7 0 (.int .i64 lv) (fun j => j = T7) rfl
    have s5 : Kp (fun _ => False) w (V.setCell ⟨T5, 0, none⟩ (.int .i64 o)) := h2.trans k5 (fun i h1 h2 => by omega)
    have s7 : Kp (fun _ => False) w ((V.setCell ⟨T5, 0, none⟩ (.int .i64 o)).setCell ⟨T7, 0, none⟩ (.int .i64 lv)) := s5.trans k7 (fun i h1 h2 => by omega)
    have r5 := (S5.out.set 0 (.int .i64 o)).kp k7 (by omega)
    have r7 := u7.set 0 (.int .i64 lv)
    have BX : Hid (Bx w ((V.setCell ⟨T5, 0, none⟩ (.int .i64 o)).setCell ⟨T7, 0, none⟩ (.int .i64 lv)) T2 T3 T4 T5 T7 o lv) := ⟨s7, by simpa using r5, by simpa using r7⟩
    clear z0 z1 S5 S7 k5 u7 k7 r5 r7 q0 q1 q2
    refine wpAnyH_ready (rs := [8]) (by kernel_rfl) (by simp) ?_
    refine AllReadyH.cons (o := { dst := none, op := Go.Op.store 3 (Go.Operand.tmp 5) (Go.Operand.tmp 29), type := 0, pos := "law.go:85", after := #[{ on := 6, ground := Go.Ground.data }, { on := 1, ground := Go.Ground.data }, { on := 0, ground := Go.Ground.phase }, { on := 1, ground := Go.Ground.phase }, { on := 2, ground := Go.Ground.textOnly Go.Departure.lateStores }, { on := 3, ground := Go.Ground.textOnly Go.Departure.lateStores }, { on := 4, ground := Go.Ground.textOnly Go.Departure.lateStores }, { on := 5, ground := Go.Ground.textOnly Go.Departure.lateStores }, { on := 6, ground := Go.Ground.phase }, { on := 7, ground := Go.Ground.phase }], guard := none }) rfl (fun K hK => ?_) AllReadyH.nil
    go_simp
    refine hK.out _ _ s5 (fun h3 => ?_)
    clear hK K
    try simp only [Act.put, List.setIfInBounds_toArray, List.set_cons_zero, List.set_cons_succ]
    refine wpAnyH_ready (rs := [9]) (by kernel_rfl) (by simp) ?_
    refine AllReadyH.cons (o := { dst := some 6, op := Go.Op.assign (Go.Operand.tmp 31), type := 3, pos := "law.go:85", after := #[{ on := 3, ground := Go.Ground.data }, { on := 8, ground := Go.Ground.chain }, { on := 0, ground := Go.Ground.phase }, { on := 1, ground := Go.Ground.phase }, { on := 2, ground := Go.Ground.phase }, { on := 3, ground := Go.Ground.phase }, { on := 4, ground := Go.Ground.textOnly Go.Departure.lateStores }, { on := 5, ground := Go.Ground.textOnly Go.Departure.lateStores }, { on := 6, ground := Go.Ground.phase }, { on := 7, ground := Go.Ground.phase }, { on := 8, ground := Go.Ground.phase }], guard := none }) rfl (fun K hK => ?_) AllReadyH.nil
    go_simp
    refine hK.out _ _ s5 (fun h3 => ?_)
    clear hK K
    try simp only [Act.put, List.setIfInBounds_toArray, List.set_cons_zero, List.set_cons_succ]
    refine wpAnyH_ready (rs := [10]) (by kernel_rfl) (by simp) ?_
    refine AllReadyH.cons (o := { dst := none, op := Go.Op.store 3 (Go.Operand.tmp 7) (Go.Operand.tmp 33), type := 0, pos := "law.go:85", after := #[{ on := 7, ground := Go.Ground.data }, { on := 5, ground := Go.Ground.data }, { on := 9, ground := Go.Ground.chain }, { on := 0, ground := Go.Ground.phase }, { on := 1, ground := Go.Ground.phase }, { on := 2, ground := Go.Ground.phase }, { on := 3, ground := Go.Ground.phase }, { on := 4, ground := Go.Ground.phase }, { on := 5, ground := Go.Ground.phase }, { on := 6, ground := Go.Ground.phase }, { on := 7, ground := Go.Ground.phase }, { on := 8, ground := Go.Ground.phase }, { on := 9, ground := Go.Ground.phase }], guard := none }) rfl (fun K hK => ?_) AllReadyH.nil
    go_simp
    refine hK.out _ _ s7 (fun h3 => ?_)
    clear hK K
    try simp only [Act.put, List.setIfInBounds_toArray, List.set_cons_zero, List.set_cons_succ]
    refine wpAnyH_done (by kernel_rfl) ?_ _
    exact ⟨T5, T7, act_of (by kernel_rfl) rfl, BX.out⟩
end Go.Proofs.YtjhgkcbpllgdiaaDoor
