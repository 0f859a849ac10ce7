/- The walk of HeadRead. -/
import Derived.Test.YtejdmnhdjeogaaaRe
namespace Go.Proofs.Ytejdmnhdjeogaaa
open Go.RowKit
set_option linter.unusedVariables false
theorem kp_below {w w' : World} (h : Below w.heap.size w w') : Kp (fun _ => False) w w' := ⟨h.os, h.tape, h.output, h.size, fun i hi _ => h.block i hi⟩
theorem own_form {w : World} {base : Nat} {v : Value} {zs : List Int} {z : Int} (h : OwnI w base v ([] ++ zs ++ [z])) :
    ∃ G c tl, v = .slice (some ⟨G, 0, none⟩) (zs.length + 1) c ∧ base ≤ G ∧ Rw 5 w G (zs ++ (z :: tl)) ∧ zs.length + 1 ≤ c ∧ c ≤ maxLen := by
  rcases h with ⟨_, h2⟩ | ⟨g, cap, tl, rfl, hb, hr, h3, h4⟩
  · simp at h2
  · exact ⟨g, cap, tl, by simp, hb, by simpa using hr, by simp at h3; omega, h4⟩
theorem row_src {w : World} {G : Nat} {zs tl : List Int} (h : Rw 5 w G (zs ++ tl)) : Src w (some ⟨G, 0, none⟩) zs := Src.mk (row_zs h)
theorem row_at {w : World} {G : Nat} {zs tl : List Int} {z : Int} {len : Nat} (hl : zs.length = len) (h : Rw 5 w G (zs ++ z :: tl)) : w.cell? ⟨G, len, none⟩ = some (.int .u8 z) := by
  subst hl
  rw [h.cell zs.length (by simp)]
  simp [List.getD]
theorem cv {w : World} {ao : Option Addr} {len c : Nat} {xs : List Int} (hl : xs.length = len) (h : Src w ao xs) : (convert 26 9 (.slice ao len c)).run Try.prog w = .ok (.string (strOfNums xs)) w := by
  subst hl
  exact run_convert_rw w 26 9 5 Try.underlying26 Try.underlying5 Try.underlying9 ao _ c xs rfl h
theorem src_bz {w : World} {ao : Option Addr} {cap : Nat} {zs : List Int} (hs : Src w ao zs) (hb : Byt zs) (hc : zs.length ≤ cap) (hm : cap ≤ maxLen) (hp : 0 < zs.length) : ∃ g off, ao = some ⟨g, off, none⟩ ∧ Bz w g off zs.length cap zs := by
  obtain ⟨g, off, rfl, hcell⟩ := hs hp
  exact ⟨g, off, rfl, ⟨rfl, hb, hcell, hc, by unfold maxLen at hm; omega⟩⟩
theorem read_nc (ao : Option Addr) (cap : Nat) (zs : List Int) (w : World) (hs : Src w ao zs) (hb : Byt zs) (hc : zs.length ≤ cap) (hm : cap ≤ maxLen) (hn : ¬ Cnd zs) : Calls Try.prog 15 #[.slice ao zs.length cap] w fun e w' => e = .returned (.tuple #[.agg zH.cs, .int .i64 180]) ∧ Kp (fun _ => False) w w' := by
  by_cases h5 : zs.length < 512
  · exact read_short ao _ cap w h5
  · obtain ⟨g, off, rfl, hz⟩ := src_bz hs hb hc hm (by omega)
    exact read_no g off _ cap zs w hz (by omega) hn
theorem read_c (ao : Option Addr) (cap : Nat) (zs : List Int) (w : World) (hs : Src w ao zs) (hb : Byt zs) (hc : zs.length ≤ cap) (hm : cap ≤ maxLen) (hn : Cnd zs) : Calls Try.prog 15 #[.slice ao zs.length cap] w fun e w' => e = .returned (.tuple #[.agg (rdH zs).cs, .int .i64 0]) ∧ Kp (fun _ => False) w w' := by
  have h5 := hn.len
  obtain ⟨g, off, rfl, hz⟩ := src_bz hs hb hc hm (by omega)
  exact read_yes g off _ cap zs w hz (by omega) hn
theorem rread_nc (ao : Option Addr) (cap : Nat) (zs : List Int) (w : World) (hs : Src w ao zs) (hb : Byt zs) (hc : zs.length ≤ cap) (hm : cap ≤ maxLen) (hn : ¬ Cnd zs) : Calls Try.prog 19 #[.slice ao zs.length cap] w fun e w' => e = .returned (.tuple #[.agg zH.cs, .bool false]) ∧ Kp (fun _ => False) w w' := by
  by_cases h5 : zs.length < 512
  · exact rread_short ao _ cap w h5
  · obtain ⟨g, off, rfl, hz⟩ := src_bz hs hb hc hm (by omega)
    refine (rread_any g off _ cap zs w hz (by omega)).mono ?_
    rintro e w' ⟨⟨q, _⟩ | ⟨_, rfl⟩, k⟩
    · exact absurd q hn
    · exact ⟨rfl, k⟩
theorem rread_c (ao : Option Addr) (cap : Nat) (zs : List Int) (w : World) (hs : Src w ao zs) (hb : Byt zs) (hc : zs.length ≤ cap) (hm : cap ≤ maxLen) (hn : Cnd zs) : Calls Try.prog 19 #[.slice ao zs.length cap] w fun e w' => e = .returned (.tuple #[.agg (rdH zs).cs, .bool true]) ∧ Kp (fun _ => False) w w' := by
  have h5 := hn.len
  obtain ⟨g, off, rfl, hz⟩ := src_bz hs hb hc hm (by omega)
  refine (rread_any g off _ cap zs w hz (by omega)).mono ?_
  rintro e w' ⟨⟨_, rfl⟩ | ⟨q, _⟩, k⟩
  · exact ⟨rfl, k⟩
  · exact absurd hn q
set_option maxHeartbeats 400000 in
theorem headr_long (ao : Option Addr) (len cap : Nat) (w : World) (h : 5000 < len) :
    Calls Try.prog 4 #[.slice ao len cap] w fun e w' => e = .returned (.bool true) ∧ Kp (fun _ => False) w w' := by
  go_enter Try.func4, Try.ntmps4
  go_wp2_with (go_at_call 6; refine (known_any _).mono ?_; rintro e w1 ⟨rfl, b1⟩)
  go_ret
  exact ⟨rfl, b1⟩
theorem cv_take {w : World} {ao : Option Addr} {c : Nat} {xs : List Int} (h : Src w ao xs) (hl : 512 ≤ xs.length) : (convert 26 9 (.slice ao 512 c)).run Try.prog w = .ok (.string (strOfNums (xs.take 512))) w := by
  obtain ⟨g, off, rfl, hc⟩ := h (by omega)
  exact run_convert_rw w 26 9 5 Try.underlying26 Try.underlying5 Try.underlying9 _ 512 c (xs.take 512) (by simp; omega) (fun _ => ⟨g, off, rfl, fun i hi => by
    rw [hc i (by omega)]
    simp [List.getD, hi]⟩)
def q4r11_0 : Oper := { dst := some 65, op := Go.Op.load 24 (Go.Operand.tmp 4), type := 24, pos := "law.go:55", after := #[], guard := none }
def q4r11_1 : Oper := { dst := some 66, op := Go.Op.load 24 (Go.Operand.tmp 6), type := 24, pos := "law.go:55", after := #[], guard := none }
def q4r11_2 : Oper := { dst := some 67, op := Go.Op.binOp Go.BinOp.eql 24 (Go.Operand.tmp 65) (Go.Operand.tmp 66) 24, type := 4, pos := "law.go:55", after := #[{ on := 0, ground := Go.Ground.data }, { on := 1, ground := Go.Ground.data }], guard := none }
def q4r11_3 : Oper := { dst := some 68, op := Go.Op.move (Go.Operand.tmp 67), type := 4, pos := "law.go:55", after := #[{ on := 2, ground := Go.Ground.data }], guard := none }
def q4r11_4 : Oper := { dst := some 69, op := Go.Op.move (Go.Operand.tmp 5), type := 27, pos := "law.go:55", after := #[{ on := 3, ground := Go.Ground.guard }], guard := some (3, true) }
def q4r11_5 : Oper := { dst := some 70, op := Go.Op.binOp Go.BinOp.eql 27 (Go.Operand.tmp 69) (Go.Operand.const (Go.Value.int Go.IntKind.i64 0)) 27, type := 4, pos := "law.go:55", after := #[{ on := 4, ground := Go.Ground.data }, { on := 3, ground := Go.Ground.guard }], guard := some (3, true) }
def q4r11_6 : Oper := { dst := some 71, op := Go.Op.pick (Go.Operand.tmp 68) (Go.Operand.tmp 70) (Go.Operand.const (Go.Value.bool false)), type := 4, pos := "law.go:55", after := #[{ on := 3, ground := Go.Ground.data }, { on := 5, ground := Go.Ground.data }], guard := none }
def q4r11_7 : Oper := { dst := some 72, op := Go.Op.move (Go.Operand.tmp 71), type := 4, pos := "law.go:55", after := #[{ on := 6, ground := Go.Ground.data }, { on := 3, ground := Go.Ground.chain }], guard := none }
def q4r11_8 : Oper := { dst := some 73, op := Go.Op.move (Go.Operand.tmp 9), type := 27, pos := "law.go:55", after := #[{ on := 7, ground := Go.Ground.guard }], guard := some (7, true) }
def q4r11_9 : Oper := { dst := some 74, op := Go.Op.binOp Go.BinOp.eql 27 (Go.Operand.tmp 73) (Go.Operand.const (Go.Value.int Go.IntKind.i64 0)) 27, type := 4, pos := "law.go:55", after := #[{ on := 8, ground := Go.Ground.data }, { on := 7, ground := Go.Ground.guard }], guard := some (7, true) }
def q4r11_10 : Oper := { dst := some 75, op := Go.Op.pick (Go.Operand.tmp 72) (Go.Operand.tmp 74) (Go.Operand.const (Go.Value.bool false)), type := 4, pos := "law.go:55", after := #[{ on := 7, ground := Go.Ground.data }, { on := 9, ground := Go.Ground.data }], guard := none }
def q4r11_11 : Oper := { dst := some 76, op := Go.Op.move (Go.Operand.tmp 75), type := 4, pos := "law.go:55", after := #[{ on := 10, ground := Go.Ground.data }, { on := 7, ground := Go.Ground.chain }], guard := none }
def q4r11_12 : Oper := { dst := some 77, op := Go.Op.move (Go.Operand.tmp 8), type := 26, pos := "law.go:55", after := #[{ on := 11, ground := Go.Ground.guard }], guard := some (11, true) }
def q4r11_13 : Oper := { dst := some 78, op := Go.Op.convert 26 9 (Go.Operand.tmp 77), type := 9, pos := "law.go:55", after := #[{ on := 12, ground := Go.Ground.data }, { on := 11, ground := Go.Ground.guard }], guard := some (11, true) }
def q4r11_14 : Oper := { dst := some 79, op := Go.Op.move (Go.Operand.tmp 0), type := 26, pos := "law.go:55", after := #[{ on := 11, ground := Go.Ground.guard }], guard := some (11, true) }
def q4r11_15 : Oper := { dst := some 80, op := Go.Op.slice 26 (Go.Operand.tmp 79) none (some (Go.Operand.const (Go.Value.int Go.IntKind.i64 512))) none, type := 26, pos := "law.go:55", after := #[{ on := 14, ground := Go.Ground.data }, { on := 11, ground := Go.Ground.guard }], guard := some (11, true) }
def q4r11_16 : Oper := { dst := some 81, op := Go.Op.convert 26 9 (Go.Operand.tmp 80), type := 9, pos := "law.go:55", after := #[{ on := 15, ground := Go.Ground.data }, { on := 11, ground := Go.Ground.guard }], guard := some (11, true) }
def q4r11_17 : Oper := { dst := some 82, op := Go.Op.binOp Go.BinOp.eql 9 (Go.Operand.tmp 78) (Go.Operand.tmp 81) 9, type := 4, pos := "law.go:55", after := #[{ on := 13, ground := Go.Ground.data }, { on := 16, ground := Go.Ground.data }, { on := 11, ground := Go.Ground.guard }], guard := some (11, true) }
def q4r11_18 : Oper := { dst := some 83, op := Go.Op.pick (Go.Operand.tmp 76) (Go.Operand.tmp 82) (Go.Operand.const (Go.Value.bool false)), type := 4, pos := "law.go:55", after := #[{ on := 11, ground := Go.Ground.data }, { on := 17, ground := Go.Ground.data }], guard := none }
def q4r11_19 : Oper := { dst := some 84, op := Go.Op.move (Go.Operand.tmp 83), type := 4, pos := "law.go:55", after := #[{ on := 18, ground := Go.Ground.data }, { on := 11, ground := Go.Ground.chain }], guard := none }
def q4r11_20 : Oper := { dst := some 85, op := Go.Op.call { callee := Go.Callee.value (Go.Operand.func 6), args := #[], argTypes := #[] }, type := 4, pos := "law.go:55", after := #[{ on := 19, ground := Go.Ground.chain }, { on := 19, ground := Go.Ground.guard }], guard := some (19, true) }
def q4r11_21 : Oper := { dst := some 86, op := Go.Op.pick (Go.Operand.tmp 84) (Go.Operand.tmp 85) (Go.Operand.const (Go.Value.bool false)), type := 4, pos := "law.go:55", after := #[{ on := 19, ground := Go.Ground.data }, { on := 20, ground := Go.Ground.data }], guard := none }
def q4r11_22 : Oper := { dst := some 2, op := Go.Op.assign (Go.Operand.tmp 86), type := 4, pos := "law.go:55", after := #[{ on := 21, ground := Go.Ground.data }, { on := 20, ground := Go.Ground.chain }, { on := 0, ground := Go.Ground.phase }, { on := 1, ground := Go.Ground.phase }, { on := 2, ground := Go.Ground.phase }, { on := 3, ground := Go.Ground.phase }, { on := 4, ground := Go.Ground.phase }, { on := 5, ground := Go.Ground.phase }, { on := 6, ground := Go.Ground.phase }, { on := 7, ground := Go.Ground.phase }, { on := 8, ground := Go.Ground.phase }, { on := 9, ground := Go.Ground.phase }, { on := 10, ground := Go.Ground.phase }, { on := 11, ground := Go.Ground.phase }, { on := 12, ground := Go.Ground.phase }, { on := 13, ground := Go.Ground.phase }, { on := 14, ground := Go.Ground.phase }, { on := 15, ground := Go.Ground.phase }, { on := 16, ground := Go.Ground.phase }, { on := 17, ground := Go.Ground.phase }, { on := 18, ground := Go.Ground.phase }, { on := 19, ground := Go.Ground.phase }, { on := 20, ground := Go.Ground.phase }, { on := 21, ground := Go.Ground.phase }], guard := none }
def o4r11 : Array Oper := #[q4r11_0, q4r11_1, q4r11_2, q4r11_3, q4r11_4, q4r11_5, q4r11_6, q4r11_7, q4r11_8, q4r11_9, q4r11_10, q4r11_11, q4r11_12, q4r11_13, q4r11_14, q4r11_15, q4r11_16, q4r11_17, q4r11_18, q4r11_19, q4r11_20, q4r11_21, q4r11_22]
def p4r11_23 : List (Nat × Oper) := []
def p4r11_22 : List (Nat × Oper) := (0, q4r11_22) :: p4r11_23
def p4r11_21 : List (Nat × Oper) := (0, q4r11_21) :: p4r11_22
def p4r11_20 : List (Nat × Oper) := (1, q4r11_20) :: p4r11_21
def p4r11_19 : List (Nat × Oper) := (0, q4r11_19) :: p4r11_20
def p4r11_18 : List (Nat × Oper) := (0, q4r11_18) :: p4r11_19
def p4r11_17 : List (Nat × Oper) := (0, q4r11_17) :: p4r11_18
def p4r11_16 : List (Nat × Oper) := (0, q4r11_16) :: p4r11_17
def p4r11_15 : List (Nat × Oper) := (0, q4r11_15) :: p4r11_16
def p4r11_14 : List (Nat × Oper) := (0, q4r11_14) :: p4r11_15
def p4r11_13 : List (Nat × Oper) := (0, q4r11_13) :: p4r11_14
def p4r11_12 : List (Nat × Oper) := (0, q4r11_12) :: p4r11_13
def p4r11_11 : List (Nat × Oper) := (0, q4r11_11) :: p4r11_12
def p4r11_10 : List (Nat × Oper) := (0, q4r11_10) :: p4r11_11
def p4r11_9 : List (Nat × Oper) := (0, q4r11_9) :: p4r11_10
def p4r11_8 : List (Nat × Oper) := (0, q4r11_8) :: p4r11_9
def p4r11_7 : List (Nat × Oper) := (0, q4r11_7) :: p4r11_8
def p4r11_6 : List (Nat × Oper) := (0, q4r11_6) :: p4r11_7
def p4r11_5 : List (Nat × Oper) := (0, q4r11_5) :: p4r11_6
def p4r11_4 : List (Nat × Oper) := (0, q4r11_4) :: p4r11_5
def p4r11_3 : List (Nat × Oper) := (0, q4r11_3) :: p4r11_4
def p4r11_2 : List (Nat × Oper) := (0, q4r11_2) :: p4r11_3
def p4r11_1 : List (Nat × Oper) := (0, q4r11_1) :: p4r11_2
def p4r11_0 : List (Nat × Oper) := (0, q4r11_0) :: p4r11_1
def c4r11 : List (Nat × Nat) := [(0, 0), (0, 1), (0, 2), (0, 3), (0, 4), (0, 5), (0, 6), (0, 7), (0, 8), (0, 9), (0, 10), (0, 11), (0, 12), (0, 13), (0, 14), (0, 15), (0, 16), (0, 17), (0, 18), (0, 19), (1, 20), (0, 21), (0, 22)]
theorem b4r11 : (Region.noSelect o4r11 && (c4r11.length == o4r11.size) && planB o4r11 [] c4r11 (Array.replicate o4r11.size false)) = true := by kernel_rfl
theorem d4r11 : (c4r11.map fun p => (p.1, o4r11[p.2]?)) = (p4r11_0.map fun p => (p.1, some p.2)) := by kernel_rfl
set_option maxRecDepth 100000 in
set_option maxHeartbeats 4000000 in
theorem headr_nc (ao : Option Addr) (cap : Nat) (zs : List Int) (w : World) (hl : zs.length ≤ 5000) (hcap : zs.length ≤ cap) (hmax : cap ≤ maxLen) (hnil : ao = none → cap = 0) (hb : Byt zs) (hsrc : Src w ao zs) (hC : ¬ Cnd zs) :
    Calls Try.prog 4 #[.slice ao zs.length cap] w fun e w' => e = .returned (.bool true) ∧ Kp (fun _ => False) w w' := by
  have T1 : Hid (([] : List Int).length + zs.length ≤ 140737488355328) := by show _ ≤ _; simp; omega
  have T2 : Hid (([] ++ zs : List Int).length + ([77] : List Int).length ≤ 140737488355328) := by show _ ≤ _; simp; omega
  have HNIL : Hid (ao = none → cap = 0) := hnil
  have HC := hid hC
  have HB := hid hb
  have HCAP := hid hcap
  have HMAX := hid hmax
  clear hnil hC hb hcap hmax
  go_enter Try.func4, Try.ntmps4
  go_wp2_with (first | (at_builtin; refine wpList_append_i rfl (.const (.slice none 0 0)) (.tmp 14) rfl w.heap.size (.slice none 0 0) [] rfl (OwnI.nil _ _) _ _ _ zs rfl rfl HNIL.out hsrc T1.out (Nat.le_refl _) ?_; intro v1 w1 o1 q1 b1) | (at_builtin; refine wpList_append_i rfl (.tmp 15) (.tmp 16) rfl w.heap.size v1 ([] ++ zs) rfl (o1.below ((Below.refl _ _).alloc (Nat.le_refl _) _)) _ _ _ [77] rfl rfl (fun e => by cases e) (row_src (tl := []) (Rw.new 5 w1 [77])) T2.out (Nat.le_trans b1.size (by simp)) ?_; intro v2 w2 o2 q2 b2; obtain ⟨G, c, tl, rfl, hG, hrow, hc1, hc2⟩ := own_form o2; have B2 := hid (kp_below ((b1.alloc b1.size _).trans b2)); have R2 := hid hrow; have S2 := hid (hsrc.kp B2.out); have HSR := hid hsrc; have HC2 := hid hc2; clear o1 q1 b1 q2 b2 T1 T2 o2 hrow hsrc hc2))
  refine (read_nc _ c zs w2 (row_src R2.out) HB.out (by omega) HC2.out HC.out).mono ?_
  rintro e w3 ⟨rfl, k3⟩
  have K3 := hid k3
  clear k3
  go_wp2_with (refine wpList_store_hd rfl (.tmp 4) (.tmp 24) rfl w3.heap.size rfl (h := zH) (h' := zH) rfl (Hb.new w3 zH) ?_; intro w4 b4 k4; have KB : Hid (Kp (fun _ => False) w3 w4) := ((Kp.refl (fun _ => False) w3).alloc _).trans k4 (fun i h1 h2 => by omega))
  have R4 := hid ((R2.out.kp K3.out (fun x => x)).kp KB.out (fun x => x))
  have S4 := hid ((S2.out.kp K3.out).kp KB.out)
  have B4 := hid ((B2.out.trans K3.out (fun _ _ x => x)).trans KB.out (fun _ _ x => x))
  have H4 := hid b4
  clear b4 k4 R2 S2 B2 KB K3
  generalize w3.heap.size = A at *
  refine (rread_nc ao cap zs w4 S4.out HB.out HCAP.out HMAX.out HC.out).mono ?_
  rintro e w5 ⟨rfl, k5⟩
  have K5 := hid k5
  clear k5
  go_wp2_with (first | (refine wpList_store_hd rfl (.tmp 6) (.tmp 29) rfl w5.heap.size rfl (h := zH) (h' := zH) rfl (Hb.new w5 zH) ?_; intro w6 b6 k6; have KB : Hid (Kp (fun _ => False) w5 w6) := ((Kp.refl (fun _ => False) w5).alloc _).trans k6 (fun i h1 h2 => by omega); have R6 := hid ((R4.out.kp K5.out (fun x => x)).kp KB.out (fun x => x)); have S6 := hid ((S4.out.kp K5.out).kp KB.out); have B6 := hid ((B4.out.trans K5.out (fun _ _ x => x)).trans KB.out (fun _ _ x => x)); have H6 := hid ((H4.out.kp K5.out (fun x => x)).kp KB.out (fun x => x)); have cv1 := cv (c := c) rfl (row_src R6.out); have cv2 := cv (c := cap) rfl S6.out; have ra := row_at rfl R6.out; clear b6 k6 R4 S4 B4 KB K5 H4) | (refine wpList_load_hd rfl (.tmp 4) rfl A rfl H6.out ?_) | (refine wpList_eq_hd rfl (.tmp 50) (.tmp 51) rfl (h := zH) (k := zH) rfl rfl (eqH_self _) ?_) | (go_at_call 6; refine (known_any _).mono ?_; rintro e w7 ⟨rfl, k7⟩))
  go_ret
  exact ⟨rfl, B6.out.trans k7 (fun _ _ x => x)⟩
set_option maxRecDepth 100000 in
set_option maxHeartbeats 4000000 in
theorem headr_c (ao : Option Addr) (cap : Nat) (zs : List Int) (w : World) (hl : zs.length ≤ 5000) (hcap : zs.length ≤ cap) (hmax : cap ≤ maxLen) (hnil : ao = none → cap = 0) (hb : Byt zs) (hsrc : Src w ao zs) (hC : Cnd zs) :
    Calls Try.prog 4 #[.slice ao zs.length cap] w fun e w' => e = .returned (.bool true) ∧ Kp (fun _ => False) w w' := by
  have T1 : Hid (([] : List Int).length + zs.length ≤ 140737488355328) := by show _ ≤ _; simp; omega
  have T2 : Hid (([] ++ zs : List Int).length + ([77] : List Int).length ≤ 140737488355328) := by show _ ≤ _; simp; omega
  have HNIL : Hid (ao = none → cap = 0) := hnil
  have HC := hid hC
  have HB := hid hb
  have HCAP := hid hcap
  have HMAX := hid hmax
  clear hnil hC hb hcap hmax
  have WF := hid (rdH_wf zs HB.out HC.out.len)
  go_enter Try.func4, Try.ntmps4
  go_wp2_with (first | (at_builtin; refine wpList_append_i rfl (.const (.slice none 0 0)) (.tmp 14) rfl w.heap.size (.slice none 0 0) [] rfl (OwnI.nil _ _) _ _ _ zs rfl rfl HNIL.out hsrc T1.out (Nat.le_refl _) ?_; intro v1 w1 o1 q1 b1) | (at_builtin; refine wpList_append_i rfl (.tmp 15) (.tmp 16) rfl w.heap.size v1 ([] ++ zs) rfl (o1.below ((Below.refl _ _).alloc (Nat.le_refl _) _)) _ _ _ [77] rfl rfl (fun e => by cases e) (row_src (tl := []) (Rw.new 5 w1 [77])) T2.out (Nat.le_trans b1.size (by simp)) ?_; intro v2 w2 o2 q2 b2; obtain ⟨G, c, tl, rfl, hG, hrow, hc1, hc2⟩ := own_form o2; have B2 := hid (kp_below ((b1.alloc b1.size _).trans b2)); have R2 := hid hrow; have S2 := hid (hsrc.kp B2.out); have HSR := hid hsrc; have HC2 := hid hc2; clear o1 q1 b1 q2 b2 T1 T2 o2 hrow hsrc hc2))
  refine (read_c _ c zs w2 (row_src R2.out) HB.out (by omega) HC2.out HC.out).mono ?_
  rintro e w3 ⟨rfl, k3⟩
  have K3 := hid k3
  clear k3
  go_wp2_with (refine wpList_store_hd rfl (.tmp 4) (.tmp 24) rfl w3.heap.size rfl (h := zH) (h' := rdH zs) rfl (Hb.new w3 zH) ?_; intro w4 b4 k4; have KB : Hid (Kp (fun _ => False) w3 w4) := ((Kp.refl (fun _ => False) w3).alloc _).trans k4 (fun i h1 h2 => by omega))
  have R4 := hid ((R2.out.kp K3.out (fun x => x)).kp KB.out (fun x => x))
  have S4 := hid ((S2.out.kp K3.out).kp KB.out)
  have B4 := hid ((B2.out.trans K3.out (fun _ _ x => x)).trans KB.out (fun _ _ x => x))
  have H4 := hid b4
  clear b4 k4 R2 S2 B2 KB K3
  generalize w3.heap.size = A at *
  refine (rread_c ao cap zs w4 S4.out HB.out HCAP.out HMAX.out HC.out).mono ?_
  rintro e w5 ⟨rfl, k5⟩
  have K5 := hid k5
  clear k5
  go_wp2_with (first | (refine wpList_store_hd rfl (.tmp 6) (.tmp 29) rfl w5.heap.size rfl (h := zH) (h' := rdH zs) rfl (Hb.new w5 zH) ?_; intro w6 b6 k6; have KB : Hid (Kp (fun _ => False) w5 w6) := ((Kp.refl (fun _ => False) w5).alloc _).trans k6 (fun i h1 h2 => by omega); have R6 := hid ((R4.out.kp K5.out (fun x => x)).kp KB.out (fun x => x)); have S6 := hid ((S4.out.kp K5.out).kp KB.out); have B6 := hid ((B4.out.trans K5.out (fun _ _ x => x)).trans KB.out (fun _ _ x => x)); have H6 := hid ((H4.out.kp K5.out (fun x => x)).kp KB.out (fun x => x)); have cv1 := cv (c := c) rfl (row_src R6.out); have cv2 := cv (c := cap) rfl S6.out; have ra := row_at rfl R6.out; have H7 := hid b6; clear b6 k6 R4 S4 B4 KB K5 H4) | (refine wpList_load_hd rfl (.tmp 4) rfl A rfl H6.out ?_) | (go_at_call 7; refine (bytes_ok (rdH zs) _ WF.out HC.out.may).mono ?_; rintro e w7 ⟨G7, rfl, hG7, r7, k7⟩))
  have S7 := hid (S6.out.kp k7)
  have B7 := hid (B6.out.trans k7 (fun _ _ x => x))
  have HA7 := hid (H6.out.kp k7 (fun x => x))
  have HC7 := hid (H7.out.kp k7 (fun x => x))
  have RB := hid r7
  have hc5 : (512 : Int) ≤ (cap : Int) := by have h1 := HC.out.len; have h2 := HCAP.out; omega
  have HQ : Hid (((strOfNums (secL (rdH zs))).toList == (strOfNums (zs.take 512)).toList) = true) := (by show _ = _; rw [cnd_sec HB.out HC.out]; simp)
  clear S6 B6 H6 H7 r7 k7 cv1 cv2 ra R6
  generalize w5.heap.size = C at *
  have h0 : Kp (fun _ => False) w7 w7.drew := (Kp.refl _ _).drew
  change (Code.region 11 o4r11 true).wp _ _ _ _
  refine wp_region_plan (fun w' => Kp (fun _ => False) w7 w') [] c4r11 p4r11_0 hmix b4r11 d4r11 (fun _ _ d _ _ h => by cases d <;> exact h) ?_
  refine plan_take (o := q4r11_0) (r := p4r11_1) (.agg (rdH zs).cs) h0 (by rfl) ?hye0 ?reste0
  case hye0 => exact fun w hSw => exec_load_hd rfl rfl (HA7.out.kp hSw (fun x => x))
  try simp only [q4r11_0, Act.put, List.setIfInBounds_toArray, List.set_cons_zero, List.set_cons_succ]
  refine plan_take (o := q4r11_1) (r := p4r11_2) (.agg (rdH zs).cs) h0 (by rfl) ?hye1 ?reste1
  case hye1 => exact fun w hSw => exec_load_hd rfl rfl (HC7.out.kp hSw (fun x => x))
  try simp only [q4r11_1, Act.put, List.setIfInBounds_toArray, List.set_cons_zero, List.set_cons_succ]
  refine plan_take (o := q4r11_2) (r := p4r11_3) (.bool true) h0 (by rfl) ?hye2 ?reste2
  case hye2 => exact fun w hSw => (by rw [exec_eq_hd (x := .tmp 65) (y := .tmp 66) (h := rdH zs) (k := rdH zs) rfl rfl rfl, eqH_self])
  try simp only [q4r11_2, Act.put, List.setIfInBounds_toArray, List.set_cons_zero, List.set_cons_succ]
  refine plan_take (o := q4r11_3) (r := p4r11_4) ?ve3 h0 (by rfl) ?hye3 ?reste3
  case hye3 => (intro w _; simp only [q4r11_3]; go_simp; try with_reducible rfl)
  try simp only [q4r11_3, Act.put, List.setIfInBounds_toArray, List.set_cons_zero, List.set_cons_succ]
  refine plan_take (o := q4r11_4) (r := p4r11_5) ?ve4 h0 (by rfl) ?hye4 ?reste4
  case hye4 => (intro w _; simp only [q4r11_4]; go_simp; try with_reducible rfl)
  try simp only [q4r11_4, Act.put, List.setIfInBounds_toArray, List.set_cons_zero, List.set_cons_succ]
  refine plan_take (o := q4r11_5) (r := p4r11_6) ?ve5 h0 (by rfl) ?hye5 ?reste5
  case hye5 => (intro w _; simp only [q4r11_5]; go_simp; try with_reducible rfl)
  try simp only [q4r11_5, Act.put, List.setIfInBounds_toArray, List.set_cons_zero, List.set_cons_succ]
  refine plan_take (o := q4r11_6) (r := p4r11_7) ?ve6 h0 (by rfl) ?hye6 ?reste6
  case hye6 => (intro w _; simp only [q4r11_6]; go_simp; try with_reducible rfl)
  try simp only [q4r11_6, Act.put, List.setIfInBounds_toArray, List.set_cons_zero, List.set_cons_succ]
  refine plan_take (o := q4r11_7) (r := p4r11_8) ?ve7 h0 (by rfl) ?hye7 ?reste7
  case hye7 => (intro w _; simp only [q4r11_7]; go_simp; try with_reducible rfl)
  try simp only [q4r11_7, Act.put, List.setIfInBounds_toArray, List.set_cons_zero, List.set_cons_succ]
  refine plan_take (o := q4r11_8) (r := p4r11_9) ?ve8 h0 (by rfl) ?hye8 ?reste8
  case hye8 => (intro w _; simp only [q4r11_8]; go_simp; try with_reducible rfl)
  try simp only [q4r11_8, Act.put, List.setIfInBounds_toArray, List.set_cons_zero, List.set_cons_succ]
  refine plan_take (o := q4r11_9) (r := p4r11_10) ?ve9 h0 (by rfl) ?hye9 ?reste9
  case hye9 => (intro w _; simp only [q4r11_9]; go_simp; try with_reducible rfl)
  try simp only [q4r11_9, Act.put, List.setIfInBounds_toArray, List.set_cons_zero, List.set_cons_succ]
  refine plan_take (o := q4r11_10) (r := p4r11_11) ?ve10 h0 (by rfl) ?hye10 ?reste10
  case hye10 => (intro w _; simp only [q4r11_10]; go_simp; try with_reducible rfl)
  try simp only [q4r11_10, Act.put, List.setIfInBounds_toArray, List.set_cons_zero, List.set_cons_succ]
  refine plan_take (o := q4r11_11) (r := p4r11_12) ?ve11 h0 (by rfl) ?hye11 ?reste11
  case hye11 => (intro w _; simp only [q4r11_11]; go_simp; try with_reducible rfl)
  try simp only [q4r11_11, Act.put, List.setIfInBounds_toArray, List.set_cons_zero, List.set_cons_succ]
  refine plan_take (o := q4r11_12) (r := p4r11_13) ?ve12 h0 (by rfl) ?hye12 ?reste12
  case hye12 => (intro w _; simp only [q4r11_12]; go_simp; try with_reducible rfl)
  try simp only [q4r11_12, Act.put, List.setIfInBounds_toArray, List.set_cons_zero, List.set_cons_succ]
  refine plan_take (o := q4r11_13) (r := p4r11_14) (.string (strOfNums (secL (rdH zs)))) h0 (by rfl) ?hye13 ?reste13
  case hye13 => (intro w hSw; (try dsimp only at hSw); have hcv := conv_sec HC.out.may (RB.out.kp hSw (fun x => x)); simp only [q4r11_13]; go_simp; try with_reducible rfl)
  try simp only [q4r11_13, Act.put, List.setIfInBounds_toArray, List.set_cons_zero, List.set_cons_succ]
  refine plan_take (o := q4r11_14) (r := p4r11_15) ?ve14 h0 (by rfl) ?hye14 ?reste14
  case hye14 => (intro w _; simp only [q4r11_14]; go_simp; try with_reducible rfl)
  try simp only [q4r11_14, Act.put, List.setIfInBounds_toArray, List.set_cons_zero, List.set_cons_succ]
  refine plan_take (o := q4r11_15) (r := p4r11_16) (.slice ao 512 cap) h0 (by rfl) ?hye15 ?reste15
  case hye15 => (intro w hSw; (try dsimp only at hSw); simp only [q4r11_15]; go_simp; try with_reducible rfl)
  try simp only [q4r11_15, Act.put, List.setIfInBounds_toArray, List.set_cons_zero, List.set_cons_succ]
  refine plan_take (o := q4r11_16) (r := p4r11_17) (.string (strOfNums (zs.take 512))) h0 (by rfl) ?hye16 ?reste16
  case hye16 => (intro w hSw; (try dsimp only at hSw); have hcv := cv_take (c := cap) (S7.out.kp hSw) HC.out.len; simp only [q4r11_16]; go_simp; try with_reducible rfl)
  try simp only [q4r11_16, Act.put, List.setIfInBounds_toArray, List.set_cons_zero, List.set_cons_succ]
  refine plan_take (o := q4r11_17) (r := p4r11_18) (.bool true) h0 (by rfl) ?hye17 ?reste17
  case hye17 => (intro w _; have hq := HQ.out; simp only [q4r11_17]; go_simp)
  try simp only [q4r11_17, Act.put, List.setIfInBounds_toArray, List.set_cons_zero, List.set_cons_succ]
  refine plan_take (o := q4r11_18) (r := p4r11_19) ?ve18 h0 (by rfl) ?hye18 ?reste18
  case hye18 => (intro w _; simp only [q4r11_18]; go_simp; try with_reducible rfl)
  try simp only [q4r11_18, Act.put, List.setIfInBounds_toArray, List.set_cons_zero, List.set_cons_succ]
  refine plan_take (o := q4r11_19) (r := p4r11_20) ?ve19 h0 (by rfl) ?hye19 ?reste19
  case hye19 => (intro w _; simp only [q4r11_19]; go_simp; try with_reducible rfl)
  try simp only [q4r11_19, Act.put, List.setIfInBounds_toArray, List.set_cons_zero, List.set_cons_succ]
  refine plan_act (o := q4r11_20) (r := p4r11_21) (fun K hK => ?_)
  simp only [q4r11_20]
  go_simp
  refine (known_any _).mono ?_
  rintro _ w8 ⟨rfl, k8⟩
  go_wp2_with fail
  refine hK.out _ _ (fun h => h.trans k8 (fun _ _ x => x)) ?_
  have s8 : Kp (fun _ => False) w7 w8 := h0.trans k8 (fun _ _ x => x)
  clear hK K
  refine plan_take (o := q4r11_21) (r := p4r11_22) ?ve21 s8 (by rfl) ?hye21 ?reste21
  case hye21 => (intro w _; simp only [q4r11_21]; go_simp; try with_reducible rfl)
  try simp only [q4r11_21, Act.put, List.setIfInBounds_toArray, List.set_cons_zero, List.set_cons_succ]
  refine plan_take (o := q4r11_22) (r := p4r11_23) ?ve22 s8 (by rfl) ?hye22 ?reste22
  case hye22 => (intro w _; simp only [q4r11_22]; go_simp; try with_reducible rfl)
  try simp only [q4r11_22, Act.put, List.setIfInBounds_toArray, List.set_cons_zero, List.set_cons_succ]
  refine plan_done ?_
  go_wp2_with fail
  go_ret
  exact ⟨rfl, B7.out.trans s8 (fun _ _ x => x)⟩
theorem headr_walk (ao : Option Addr) (len cap : Nat) (zs : List Int) (w : World) (hz : zs.length = len) (hcap : len ≤ cap) (hmax : cap ≤ maxLen) (hnil : ao = none → cap = 0) (hb : Byt zs) (hsrc : Src w ao zs) :
    Calls Try.prog 4 #[.slice ao len cap] w fun e w' => e = .returned (.bool true) ∧ Kp (fun _ => False) w w' := by
  by_cases h5 : 5000 < len
  · exact headr_long ao len cap w h5
  · subst hz
    by_cases hC : Cnd zs
    · exact headr_c ao cap zs w (by omega) hcap hmax hnil hb hsrc hC
    · exact headr_nc ao cap zs w (by omega) hcap hmax hnil hb hsrc hC
end Go.Proofs.Ytejdmnhdjeogaaa
