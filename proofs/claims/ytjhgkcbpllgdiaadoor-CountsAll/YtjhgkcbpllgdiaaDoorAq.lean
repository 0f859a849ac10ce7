/- CountsAll: the bytes written over, and all that follows. -/
import Derived.Test.YtjhgkcbpllgdiaaDoorAr
namespace Go.Proofs.YtjhgkcbpllgdiaaDoor
open Go.RowKit Go.Shelf
attribute [local go_sem] Oper.semAt_some
set_option linter.unusedVariables false
def cD : Code := (((Go.Code.region 10 #[{ dst := some 52, op := Go.Op.move (Go.Operand.tmp 12), type := 3, pos := "law.go:95", after := #[], guard := none }, { dst := some 53, op := Go.Op.move (Go.Operand.tmp 8), type := 22, pos := "law.go:95", after := #[], guard := none }, { dst := some 54, op := Go.Op.call { callee := Go.Callee.builtin Go.Builtin.len, args := #[Go.Operand.tmp 53], argTypes := #[22] }, type := 3, pos := "law.go:95", after := #[{ on := 1, ground := Go.Ground.data }], guard := none }, { dst := some 55, op := Go.Op.binOp Go.BinOp.lss 3 (Go.Operand.tmp 52) (Go.Operand.tmp 54) 3, type := 4, pos := "law.go:95", after := #[{ on := 0, ground := Go.Ground.data }, { on := 2, ground := Go.Ground.data }], guard := none }] false).seq (Go.Code.cond (Go.Operand.tmp 55) Go.Code.skip (Go.Code.exit 0))).seq ((Go.Code.block 1 (Go.Code.region 12 #[{ dst := some 58, op := Go.Op.move (Go.Operand.tmp 8), type := 22, pos := "law.go:96", after := #[], guard := none }, { dst := some 59, op := Go.Op.move (Go.Operand.tmp 12), type := 3, pos := "law.go:96", after := #[], guard := none }, { dst := some 60, op := Go.Op.indexAddr 22 (Go.Operand.tmp 58) (Go.Operand.tmp 59), type := 0, pos := "law.go:96", after := #[{ on := 0, ground := Go.Ground.data }, { on := 1, ground := Go.Ground.data }], guard := none }, { dst := some 61, op := Go.Op.load 5 (Go.Operand.tmp 60), type := 5, pos := "law.go:96", after := #[{ on := 2, ground := Go.Ground.data }], guard := none }, { dst := some 62, op := Go.Op.binOp Go.BinOp.add 5 (Go.Operand.tmp 61) (Go.Operand.const (Go.Value.int Go.IntKind.u8 1)) 5, type := 5, pos := "law.go:96", after := #[{ on := 3, ground := Go.Ground.data }], guard := none }, { dst := some 63, op := Go.Op.indexAddr 22 (Go.Operand.tmp 58) (Go.Operand.tmp 59), type := 0, pos := "law.go:96", after := #[{ on := 0, ground := Go.Ground.data }, { on := 1, ground := Go.Ground.data }, { on := 0, ground := Go.Ground.phase }, { on := 1, ground := Go.Ground.phase }, { on := 2, ground := Go.Ground.phase }, { on := 3, ground := Go.Ground.phase }, { on := 4, ground := Go.Ground.phase }], guard := none }, { dst := none, op := Go.Op.store 5 (Go.Operand.tmp 63) (Go.Operand.tmp 62), type := 0, pos := "law.go:96", after := #[{ on := 5, ground := Go.Ground.data }, { on := 4, ground := Go.Ground.data }, { on := 0, ground := Go.Ground.phase }, { on := 1, ground := Go.Ground.phase }, { on := 2, ground := Go.Ground.phase }, { on := 3, ground := Go.Ground.phase }, { on := 4, ground := Go.Ground.phase }], guard := none }] false)).seq (Go.Code.region 11 #[{ dst := some 56, op := Go.Op.move (Go.Operand.tmp 12), type := 3, pos := "law.go:95", after := #[], guard := none }, { dst := some 57, op := Go.Op.binOp Go.BinOp.add 3 (Go.Operand.tmp 56) (Go.Operand.const (Go.Value.int Go.IntKind.i64 1)) 3, type := 3, pos := "law.go:95", after := #[{ on := 0, ground := Go.Ground.data }], guard := none }, { dst := some 12, op := Go.Op.assign (Go.Operand.tmp 57), type := 3, pos := "law.go:95", after := #[{ on := 1, ground := Go.Ground.data }, { on := 0, ground := Go.Ground.phase }, { on := 1, ground := Go.Ground.phase }], guard := none }] false))).loop
def cZ : Code := (((Go.Code.region 9 #[{ dst := some 12, op := Go.Op.assign (Go.Operand.const (Go.Value.int Go.IntKind.i64 0)), type := 3, pos := "law.go:95", after := #[], guard := none }] false).seq (Go.Code.block 0 cD)).seq (cW.seq cE))
def eD (T2 T4 T5 T7 : Nat) (vall : Value) (t : Int) (a5 : Option Addr) (m c5 : Nat) (aw : Option Addr) (n cw : Nat) (E : Int) (f : Nat → Value) : Array Value := #[f 0, f 1, .pointer (some ⟨T2, 0, none⟩), f 3, .pointer (some ⟨T4, 0, none⟩), .pointer (some ⟨T5, 0, none⟩), .int .i64 t, .pointer (some ⟨T7, 0, none⟩), .slice a5 m c5, vall, .slice aw n cw, .int .i64 E, f 12, f 13, f 14, f 15, f 16, f 17, f 18, f 19, f 20, f 21, f 22, f 23, f 24, f 25, f 26, f 27, f 28, f 29, f 30, f 31, f 32, f 33, f 34, f 35, f 36, f 37, f 38, f 39, f 40, f 41, f 42, f 43, f 44, f 45, f 46, f 47, f 48, f 49, f 50, f 51, f 52, f 53, f 54, f 55, f 56, f 57, f 58, f 59, f 60, f 61, f 62, f 63, f 64, f 65, f 66, f 67, f 68, f 69, f 70, f 71, f 72, f 73, f 74, f 75, f 76, f 77, f 78, f 79, f 80, f 81, f 82, f 83, f 84, f 85, f 86, f 87, f 88, f 89, f 90, f 91, f 92, f 93, f 94, f 95, f 96, f 97, f 98, f 99, f 100, f 101, f 102, f 103, f 104, f 105, f 106, f 107, f 108, f 109, f 110, f 111, f 112, f 113, f 114, f 115, f 116, f 117, f 118, f 119, f 120, f 121, f 122, f 123, f 124, f 125, f 126, f 127, f 128, f 129, f 130, f 131, f 132, f 133, f 134, f 135, f 136, f 137, f 138, f 139, f 140, f 141, f 142, f 143, f 144, f 145, f 146, f 147, f 148, f 149, f 150, f 151, f 152, f 153, f 154, f 155, f 156, f 157, f 158, f 159, f 160, f 161, f 162, f 163, f 164, f 165, f 166, f 167, f 168, f 169, f 170, f 171, f 172, f 173, f 174, f 175, f 176, f 177, f 178, f 179, f 180, f 181, f 182, f 183, f 184, f 185, f 186, f 187, f 188, f 189, f 190, f 191, f 192, f 193, f 194, f 195, f 196, f 197, f 198, f 199, f 200, f 201, f 202, f 203, f 204, f 205, f 206, f 207, f 208, f 209, f 210]
def mbk (a5 : Option Addr) (j : Nat) : Prop := ∃ x, a5 = some x ∧ j = x.block
set_option maxRecDepth 100000 in
set_option maxHeartbeats 8000000 in
theorem dec_wp (X : World) (T2 T4 T5 T7 : Nat) (vall : Value) (t : Int) (a5 : Option Addr) (m c5 : Nat) (aw : Option Addr) (n cw : Nat) (E : Int) (A : Act) (ht : A.tmps = eD T2 T4 T5 T7 vall t a5 m c5 aw n cw E (fun i => A.tmps.getD i undef)) (hd : A.defers = []) (h12 : A.tmps.getD 12 undef = .int .i64 0) (hm : m ≤ 600) (hpos : 0 < m → ∃ x, a5 = some x)
    (hx : ∀ x, a5 = some x → x.spot = none ∧ x.off = 0 ∧ ∃ L, Rw .u8 5 X x.block L ∧ m ≤ L.length) :
    cD.wpIn Fence.wide 20 Tryd.prog (postE 0 (fun a' Z => (∃ f', a' = { tmps := eW T2 T4 T5 T7 vall t aw n cw E f', defers := [] }) ∧ Kp (mbk a5) X Z)) A X := by
  obtain ⟨f, rfl⟩ := act_of ht hd
  have HX := hid hx
  have HP := hid hpos
  have h12 : f 12 = .int .i64 0 := h12
  clear hx hpos ht hd
  unfold cD eD
  rw [h12]
  clear h12
  generalize hQ : postE 0 _ = QQ
  gi_wp2_with fail
  gi_loopw [12] (fun u12 wr => ∃ k : Nat, u12 = .int .i64 (k : Int) ∧ k ≤ m ∧ Kp (mbk a5) X wr ∧ (∀ x, a5 = some x → ∃ L, Rw .u8 5 wr x.block L ∧ m ≤ L.length)) (fun u12 _ => m - (intOf u12).toNat)
  case atStart => exact ⟨0, rfl, Nat.zero_le _, Kp.refl _ _, fun x e => (HX.out x e).2.2⟩
  case round =>
    obtain ⟨k, rfl, hk, kw, hrw⟩ := hrel
    have KW := hid kw
    have HRW := hid hrw
    clear kw hrw
    by_cases hlt : k < m
    · obtain ⟨x, e5⟩ := HP.out (by omega)
      obtain ⟨hsp, hoff, _⟩ := HX.out x e5
      obtain ⟨L, hL, hLl⟩ := HRW.out _ e5
      obtain ⟨g, off, sp⟩ := x
      simp only at hsp hoff hL
      subst hsp
      subst hoff
      subst e5
      have hcl := hL.cell k (by omega)
      have hfr := hL.frozen k
      have hgl := hL.lt
      have HLR := hid hL
      clear hL
      have hki : (k : Int) < (m : Int) := by omega
      generalize L.getD k 0 = Z0 at hcl
      obtain ⟨Z1, hZ1⟩ : ∃ Z1, IntKind.u8.wrap (Z0 + 1) = Z1 := ⟨_, rfl⟩
      gi_wp2_with fail
      go_roundw
      case rel =>
        refine ⟨k + 1, by go_num, hlt, KW.out.trans (kp_setCell wr g k _ (fun j => j = g) rfl) (fun i h1 h2 => ⟨_, rfl, h2⟩), fun x e => ?_⟩
        cases e
        exact ⟨_, HLR.out.set k Z1, by simpa using hLl⟩
      case measure => simp [intOf]; omega
    · have hki : ¬ (k : Int) < (m : Int) := by omega
      clear hlt
      gi_wp2_with fail
      subst hQ
      exact ⟨rfl, act_of (by kernel_rfl) rfl, KW.out⟩
set_option maxRecDepth 100000 in
set_option maxHeartbeats 8000000 in
theorem fin_wp (w X : World) (T2 T4 T5 T7 gf : Nat) (pb : Array Value) (R0 : Nat → Prop) (ao : Option Addr) (cap : Nat) (zs : List Int) (o lv t : Int) (W M : Nat) (a5 : Option Addr) (c5 : Nat) (aw : Option Addr) (n cw : Nat) (E : Int) (A : Act) (ht : A.tmps = eD T2 T4 T5 T7 (.func (.func gf) pb #[]) t a5 zs.length c5 aw n cw E (fun i => A.tmps.getD i undef)) (hd : A.defers = [])
    (hl : zs.length ≤ 600) (hz : Byt zs) (hM : Mo o zs W M) (hpos : 0 < zs.length → ∃ x, a5 = some x) (hx : ∀ x, a5 = some x → x.spot = none ∧ x.off = 0 ∧ ∃ L, Rw .u8 5 X x.block L ∧ zs.length ≤ L.length)
    (hZ : ∀ Z, Kp (mbk a5) X Z → Bs w Z T2 T4 T5 T7 ao cap zs o lv ∧ Sqs Z gf pb zs W M R0 ∧ ∀ f, cW.wpIn Fence.wide 20 Tryd.prog (postN (fun a' Y => (∃ f', a' = { tmps := eF T2 T4 T5 T7 (.func (.func gf) pb #[]) f', defers := [] }) ∧ Kp (fun _ => False) Z Y)) { tmps := eW T2 T4 T5 T7 (.func (.func gf) pb #[]) t aw n cw E f, defers := [] } Z) :
    cZ.wpIn Fence.wide 20 Tryd.prog (bodyPostM Fence.wide 20 Tryd.prog Tryd.f5 (fun e w' => e = .returned (.bool true) ∧ Kp (fun _ => False) w w')) A X := by
  obtain ⟨f, rfl⟩ := act_of ht hd
  have DW := hid (fun (B : Act) (h1 : B.tmps = eD T2 T4 T5 T7 (.func (.func gf) pb #[]) t a5 zs.length c5 aw n cw E (fun i => B.tmps.getD i undef)) (h2 : B.defers = []) (h3 : B.tmps.getD 12 undef = .int .i64 0) => dec_wp X T2 T4 T5 T7 (.func (.func gf) pb #[]) t a5 zs.length c5 aw n cw E B h1 h2 h3 hl hpos hx)
  have HZ := hid hZ
  have TL := hid (fun (Z : World) (f : Nat → Value) (hb : Bs w Z T2 T4 T5 T7 ao cap zs o lv) (hs : Sqs Z gf pb zs W M R0) => tail_wp w Z T2 T4 T5 T7 gf pb R0 ao cap zs o lv W M f hl hz hM hb hs)
  clear ht hd hpos hx hZ hz hM
  unfold cZ eD
  generalize hQ : bodyPostM _ _ _ _ _ = QQ
  rw [hQ] at TL
  gi_wp2_with fail
  refine wpIn_mono (DW.out _ ?h1 rfl rfl) ?_
  case h1 => kernel_rfl
  intro e a1 Z hh
  cases e with
  | exit id =>
    obtain ⟨rfl, ⟨f1, rfl⟩, kz⟩ := hh
    obtain ⟨hb, hs, hw⟩ := HZ.out Z kz
    have WW := hid (hw f1)
    have BB := hid hb
    have SS := hid hs
    clear hb hs hw kz
    gi_wp2_with fail
    refine wpIn_mono WW.out ?_
    intro e a2 Y hh
    cases e with
    | normal =>
      obtain ⟨⟨f2, rfl⟩, ky⟩ := hh
      have TT := hid (TL.out Y f2 (BB.out.same ky) (SS.out.same ky))
      gi_wp2_with fail
      exact TT.out
    | _ => exact hh.elim
  | _ => exact hh.elim
end Go.Proofs.YtjhgkcbpllgdiaaDoor
