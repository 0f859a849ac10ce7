/- HuffCoding: the law's walk, its middle. -/
import Derived.Test.YthpocbpleffdpaaEb
import Derived.Test.YthpocbpleffdpaaDq
namespace Go.Proofs.Ythpocbpleffdpaa
open Go.RowKit Go.Shelf
set_option linter.unusedVariables false
set_option linter.unusedSimpArgs false
set_option maxRecDepth 100000
def e24 (T1 g gw : Nat) (nv fe : Int) (bad : Bool) (f : Nat → Value) : Array Value := #[f 0, .pointer (some ⟨T1, 0, none⟩), f 2, f 3, .pointer (some ⟨g, 0, none⟩), f 5, f 6, .pointer (some ⟨gw, 0, none⟩), .int .i64 nv, .int .i64 fe, .bool bad, f 11, f 12, f 13, f 14, f 15, f 16, f 17, f 18, f 19, f 20, f 21, f 22, f 23, f 24, f 25, f 26, f 27, f 28, f 29, f 30, f 31, f 32, f 33, f 34, f 35, f 36, f 37, f 38, f 39, f 40, f 41, f 42, f 43, f 44, f 45, f 46, f 47, f 48, f 49, f 50, f 51, f 52, f 53, f 54, f 55, f 56, f 57, f 58, f 59, f 60, f 61, f 62, f 63, f 64, f 65, f 66, f 67, f 68, f 69, f 70, f 71, f 72, f 73, f 74, f 75, f 76, f 77, f 78, f 79, f 80, f 81, f 82, f 83, f 84, f 85, f 86, f 87, f 88, f 89, f 90, f 91, f 92, f 93, f 94, f 95, f 96, f 97, f 98, f 99, f 100, f 101, f 102, f 103, f 104, f 105, f 106, f 107, f 108, f 109, f 110, f 111, f 112, f 113, f 114, f 115, f 116, f 117, f 118, f 119, f 120, f 121, f 122, f 123, f 124, f 125, f 126, f 127, f 128, f 129, f 130, f 131, f 132, f 133, f 134, f 135, f 136, f 137, f 138, f 139, f 140, f 141, f 142, f 143, f 144, f 145, f 146, f 147, f 148, f 149, f 150, f 151, f 152, f 153, f 154, f 155, f 156, f 157, f 158, f 159, f 160, f 161, f 162, f 163, f 164, f 165, f 166, f 167, f 168, f 169, f 170, f 171, f 172, f 173, f 174, f 175, f 176, f 177, f 178, f 179, f 180, f 181, f 182, f 183, f 184, f 185, f 186, f 187, f 188, f 189, f 190, f 191, f 192, f 193, f 194, f 195, f 196, f 197, f 198, f 199, f 200]
def e19 (T1 g gw : Nat) (nv fe : Int) (f : Nat → Value) : Array Value := #[f 0, .pointer (some ⟨T1, 0, none⟩), f 2, f 3, .pointer (some ⟨g, 0, none⟩), f 5, f 6, .pointer (some ⟨gw, 0, none⟩), .int .i64 nv, .int .i64 fe, f 10, f 11, f 12, f 13, f 14, f 15, f 16, f 17, f 18, f 19, f 20, f 21, f 22, f 23, f 24, f 25, f 26, f 27, f 28, f 29, f 30, f 31, f 32, f 33, f 34, f 35, f 36, f 37, f 38, f 39, f 40, f 41, f 42, f 43, f 44, f 45, f 46, f 47, f 48, f 49, f 50, f 51, f 52, f 53, f 54, f 55, f 56, f 57, f 58, f 59, f 60, f 61, f 62, f 63, f 64, f 65, f 66, f 67, f 68, f 69, f 70, f 71, f 72, f 73, f 74, f 75, f 76, f 77, f 78, f 79, f 80, f 81, f 82, f 83, f 84, f 85, f 86, f 87, f 88, f 89, f 90, f 91, f 92, f 93, f 94, f 95, f 96, f 97, f 98, f 99, f 100, f 101, f 102, f 103, f 104, f 105, f 106, f 107, f 108, f 109, f 110, f 111, f 112, f 113, f 114, f 115, f 116, f 117, f 118, f 119, f 120, f 121, f 122, f 123, f 124, f 125, f 126, f 127, f 128, f 129, f 130, f 131, f 132, f 133, f 134, f 135, f 136, f 137, f 138, f 139, f 140, f 141, f 142, f 143, f 144, f 145, f 146, f 147, f 148, f 149, f 150, f 151, f 152, f 153, f 154, f 155, f 156, f 157, f 158, f 159, f 160, f 161, f 162, f 163, f 164, f 165, f 166, f 167, f 168, f 169, f 170, f 171, f 172, f 173, f 174, f 175, f 176, f 177, f 178, f 179, f 180, f 181, f 182, f 183, f 184, f 185, f 186, f 187, f 188, f 189, f 190, f 191, f 192, f 193, f 194, f 195, f 196, f 197, f 198, f 199, f 200]
def e13 (T1 g : Nat) (f : Nat → Value) : Array Value := #[f 0, .pointer (some ⟨T1, 0, none⟩), f 2, f 3, .pointer (some ⟨g, 0, none⟩), .int .i64 0, f 6, f 7, f 8, f 9, f 10, f 11, f 12, f 13, f 14, f 15, f 16, f 17, f 18, f 19, f 20, f 21, f 22, f 23, f 24, f 25, f 26, f 27, f 28, f 29, f 30, f 31, f 32, f 33, f 34, f 35, f 36, f 37, f 38, f 39, f 40, f 41, f 42, f 43, f 44, f 45, f 46, f 47, f 48, f 49, f 50, f 51, f 52, f 53, f 54, f 55, f 56, f 57, f 58, f 59, f 60, f 61, f 62, f 63, f 64, f 65, f 66, f 67, f 68, f 69, f 70, f 71, f 72, f 73, f 74, f 75, f 76, f 77, f 78, f 79, f 80, f 81, f 82, f 83, f 84, f 85, f 86, f 87, f 88, f 89, f 90, f 91, f 92, f 93, f 94, f 95, f 96, f 97, f 98, f 99, f 100, f 101, f 102, f 103, f 104, f 105, f 106, f 107, f 108, f 109, f 110, f 111, f 112, f 113, f 114, f 115, f 116, f 117, f 118, f 119, f 120, f 121, f 122, f 123, f 124, f 125, f 126, f 127, f 128, f 129, f 130, f 131, f 132, f 133, f 134, f 135, f 136, f 137, f 138, f 139, f 140, f 141, f 142, f 143, f 144, f 145, f 146, f 147, f 148, f 149, f 150, f 151, f 152, f 153, f 154, f 155, f 156, f 157, f 158, f 159, f 160, f 161, f 162, f 163, f 164, f 165, f 166, f 167, f 168, f 169, f 170, f 171, f 172, f 173, f 174, f 175, f 176, f 177, f 178, f 179, f 180, f 181, f 182, f 183, f 184, f 185, f 186, f 187, f 188, f 189, f 190, f 191, f 192, f 193, f 194, f 195, f 196, f 197, f 198, f 199, f 200]
theorem may_wgt {zs : List Int} (h : may zs = 0) : wgt zs ≤ 32768 := by
  unfold may at h
  split at h
  · split at h
    · cases h
    · omega
  · contradiction
/-- Is one of the first j symbols none that has a code? -/
def bd (zs ss : List Int) : Nat → Bool
  | 0 => false
  | j + 1 => bd zs ss j || !hasb zs (ss.getD j 0)
theorem bd_false {zs ss : List Int} : ∀ n, bd zs ss n = false → ∀ i, i < n → hasb zs (ss.getD i 0) = true
  | 0, _, i, hi => absurd hi (by omega)
  | n + 1, h, i, hi => by
    simp only [bd, Bool.or_eq_false_iff, Bool.not_eq_false'] at h
    by_cases e : i = n
    · subst e; exact h.2
    · exact bd_false n h.1 i (by omega)
theorem bd_true {zs ss : List Int} : ∀ n i, i < n → hasb zs (ss.getD i 0) = false → bd zs ss n = true
  | 0, i, hi, _ => absurd hi (by omega)
  | n + 1, i, hi, h => by
    simp only [bd, Bool.or_eq_true, Bool.not_eq_true']
    by_cases e : i = n
    · subst e; exact .inr h
    · exact .inl (bd_true n i (by omega) h)
theorem bd_all {zs ss : List Int} (h : ∀ s ∈ ss, hasb zs s = true) : bd zs ss ss.length = false := by
  cases e : bd zs ss ss.length with
  | false => rfl
  | true =>
    exfalso
    have key : ∀ n, n ≤ ss.length → bd zs ss n = false := by
      intro n
      induction n with
      | zero => intro _; rfl
      | succ n ih =>
        intro hn
        simp only [bd, Bool.or_eq_false_iff, Bool.not_eq_false']
        refine ⟨ih (by omega), h _ ?_⟩
        rw [List.getD_eq_getElem?_getD, List.getElem?_eq_getElem (by omega)]
        exact List.getElem_mem _
    rw [key _ (Nat.le_refl _)] at e
    cases e
theorem bd_ex {zs ss : List Int} (h : ∃ s ∈ ss, hasb zs s = false) : bd zs ss ss.length = true := by
  obtain ⟨s, hs, h⟩ := h
  obtain ⟨i, hi, rfl⟩ := List.mem_iff_getElem.1 hs
  refine bd_true _ i hi ?_
  rw [List.getD_eq_getElem?_getD, List.getElem?_eq_getElem hi]
  exact h
theorem mem_of_bd {zs ss : List Int} (h : bd zs ss ss.length = false) : ∀ s ∈ ss, hasb zs s = true := by
  intro s hs
  obtain ⟨i, hi, rfl⟩ := List.mem_iff_getElem.1 hs
  have := bd_false _ h i hi
  rwa [List.getD_eq_getElem?_getD, List.getElem?_eq_getElem hi] at this
theorem own_3 {w : World} {base P L M : Nat} {v : Value} (hM : M = 3 + L) (h : Bz.OwnI w base v (Bz.dig 2 5 3 ++ Bz.dig 2 P L)) : ∃ g c, v = .slice (some ⟨g, 0, none⟩) M c ∧ M ≤ c ∧ Bz.Src w (some ⟨g, 0, none⟩) (Bz.dig 2 (5 + P * 2 ^ 3) M) := by
  subst hM
  have hl : (Bz.dig 2 5 3 ++ Bz.dig 2 P L).length = 3 + L := by rw [List.length_append, Bz.dig_length, Bz.dig_length]
  rcases h with ⟨_, e⟩ | ⟨g, c, tl, rfl, _, hr, hc, _⟩
  · rw [e] at hl; simp at hl; omega
  · refine ⟨g, c, by rw [hl], by rw [← hc, List.length_append, hl]; omega, ?_⟩
    rw [Bz.dig_join 2 5 P 3 L (by decide) (by decide)]
    exact Bz.row_src hr
set_option maxHeartbeats 8000000 in
theorem w24b (W0 : World) (w X : World) (T1 g : Nat) (la ca sa a0 a1 a2 : Option Addr) (lc cc sc c0 c1 c2 : Nat) (zs S ss B : List Int) (skip leave : Int) (gw : Nat) (f : Nat → Value) (h : Cx w X T1 g la ca sa a0 a1 a2 lc cc sc c0 c1 c2 zs S ss B skip leave) (hW : Bz.WrO W0 X gw 3 5) : c246.wp Try.prog (bodyPost Try.prog Try.f6 (fun e w' => e = .returned (.bool true) ∧ Kp (fun _ => False) w w')) { tmps := e24 T1 g gw 0 2 true f, defers := [] } X := by
  have W31 := hid (fun (A : Act) (Y : World) (M V : Nat) (va : Option Addr) (vc : Nat) (ht : A.tmps = e31 T1 g gw (.slice va M vc) (fun i => A.tmps.getD i undef)) (hd : A.defers = []) (k : Kp (fun _ => False) X Y) (hW : Bz.WrO W0 Y gw M V) (hM : M ≤ 1000000) (hV : V < 2 ^ M) (hvc : M ≤ vc) (hv : Bz.Src Y va (Bz.dig 2 V M)) => (by
    obtain ⟨f, rfl⟩ := act_of ht hd
    exact w31 W0 w Y T1 g la ca sa a0 a1 a2 lc cc sc c0 c1 c2 zs S ss B skip leave gw M V va vc f (h.same k) hW hM hV hvc hv : c316.wp Try.prog (bodyPost Try.prog Try.f6 (fun e w' => e = .returned (.bool true) ∧ Kp (fun _ => False) w w')) A Y))
  have WO := hid hW
  have HNU := hid num_any
  have k1 : Kp (fun _ => False) X (X.alloc (.cells #[.int .u8 1, .int .u8 0, .int .u8 1] 5)) := (Kp.refl _ _).alloc _
  have K1 := hid k1
  have R1 : Hid (Bz.Src (X.alloc (.cells #[.int .u8 1, .int .u8 0, .int .u8 1] 5)) (some ⟨X.heap.size, 0, none⟩) (Bz.dig 2 5 3)) := row_b X [1, 0, 1]
  clear h hW k1
  unfold c246 e24
  go_wp2_with (first | (go_at_call 13; refine (HNU.out _ _).mono ?_; rintro e1 wx ⟨rfl, rfl⟩))
  exact W31.out _ _ 3 5 _ 3 (by kernel_rfl) rfl K1.out (WO.out.ok (kpZ K1.out)) (by omega) (by decide) (by omega) R1.out
set_option maxHeartbeats 8000000 in
theorem w24g (W0 : World) (w X : World) (T1 g : Nat) (la ca sa a0 a1 a2 : Option Addr) (lc cc sc c0 c1 c2 : Nat) (zs S ss B : List Int) (skip leave : Int) (gw L P : Nat) (f : Nat → Value) (h : Cx w X T1 g la ca sa a0 a1 a2 lc cc sc c0 c1 c2 zs S ss B skip leave) (hW : Bz.WrO W0 X gw (3 + L) (5 + P * 2 ^ 3)) (hL : L = lgn zs ss ss.length) (hP : P = pvn zs ss ss.length) (hall : ∀ s ∈ ss, hasb zs s = true) : c246.wp Try.prog (bodyPost Try.prog Try.f6 (fun e w' => e = .returned (.bool true) ∧ Kp (fun _ => False) w w')) { tmps := e24 T1 g gw (L : Int) 0 false f, defers := [] } X := by
  have W31 := hid (fun (A : Act) (Y : World) (M V : Nat) (va : Option Addr) (vc : Nat) (ht : A.tmps = e31 T1 g gw (.slice va M vc) (fun i => A.tmps.getD i undef)) (hd : A.defers = []) (k : Kp (fun _ => False) X Y) (hW : Bz.WrO W0 Y gw M V) (hM : M ≤ 1000000) (hV : V < 2 ^ M) (hvc : M ≤ vc) (hv : Bz.Src Y va (Bz.dig 2 V M)) => (by
    obtain ⟨f, rfl⟩ := act_of ht hd
    exact w31 W0 w Y T1 g la ca sa a0 a1 a2 lc cc sc c0 c1 c2 zs S ss B skip leave gw M V va vc f (h.same k) hW hM hV hvc hv : c316.wp Try.prog (bodyPost Try.prog Try.f6 (fun e w' => e = .returned (.bool true) ∧ Kp (fun _ => False) w w')) A Y))
  have hbz : bad zs = 0 := by
    by_cases hh : bad zs = 0
    · exact hh
    · exact absurd (may_bad hh ▸ h.hm) hh
  obtain ⟨hwi, hzl⟩ := bad_zero hbz
  have hL2 : L ≤ 6000 := by have := lgn_le (zs := zs) (ss := ss) hwi ss.length; have := h.h1; omega
  have hP2 : P < 2 ^ L := by rw [hL, hP]; exact pvn_lt zs ss _
  have WO := hid hW
  have HNU := hid num_any
  have k1 : Kp (fun _ => False) X (X.alloc (.cells #[.int .u8 1, .int .u8 0, .int .u8 1] 5)) := (Kp.refl _ _).alloc _
  have K1 := hid k1
  have C1 := hid (h.same k1)
  have hwg : wgt zs ≤ 32768 := may_wgt h.hm
  have HRP : Hid (Calls Try.prog 34 #[.slice a0 zs.length c0, .slice a1 ss.length c1] (X.alloc (.cells #[.int .u8 1, .int .u8 0, .int .u8 1] 5)) fun e w' => ∃ v, e = .returned v ∧ Bz.OwnI w' (X.alloc (.cells #[.int .u8 1, .int .u8 0, .int .u8 1] 5)).heap.size v (Bz.dig 2 P L) ∧ Below (X.alloc (.cells #[.int .u8 1, .int .u8 0, .int .u8 1] 5)).heap.size (X.alloc (.cells #[.int .u8 1, .int .u8 0, .int .u8 1] 5)) w') := by
    rw [hL, hP]
    exact rput_any _ a0 a1 c0 c1 zs ss C1.out.s0 hwi hzl hwg C1.out.s1 h.h1 hall
  have R1 : Hid (Bz.Rw 5 (X.alloc (.cells #[.int .u8 1, .int .u8 0, .int .u8 1] 5)) X.heap.size (Bz.dig 2 5 3)) := heap_alloc_new X _
  have t0 : (X.alloc (.cells #[.int .u8 1, .int .u8 0, .int .u8 1] 5)).cell? ⟨T1, 0, none⟩ = some (.slice a0 zs.length c0) := C1.out.sT.cell 0
  have t1 : (X.alloc (.cells #[.int .u8 1, .int .u8 0, .int .u8 1] 5)).cell? ⟨T1, 1, none⟩ = some (.slice a1 ss.length c1) := C1.out.sT.cell 1
  have HX : Hid ((X.alloc (.cells #[.int .u8 1, .int .u8 0, .int .u8 1] 5)).heap.size = X.heap.size + 1) := World.size_alloc ..
  have HL := hid hL2
  have HPL := hid hP2
  clear h hW k1 hL hP hwi hzl hwg hbz hall hP2
  unfold c246 e24
  generalize hQ : bodyPost _ _ _ = QQ
  go_wp2_with fail
  obtain ⟨X1, hX1⟩ : ∃ X1, X1 = X.alloc (.cells #[.int .u8 1, .int .u8 0, .int .u8 1] 5) := ⟨_, rfl⟩
  rw [← hX1] at K1 C1 HRP R1 t0 t1 HX ⊢
  obtain ⟨GB, hGB⟩ : ∃ GB, GB = X.heap.size := ⟨_, rfl⟩
  rw [← hGB] at R1 HX ⊢
  have HGX : Hid (X.heap.size ≤ GB) := by show _ ≤ _; omega
  obtain ⟨M, hM3⟩ : ∃ M, M = 3 + L := ⟨_, rfl⟩
  have hw1 : (M : Int) - 3 = (L : Int) := by omega
  have HM3 := hid hM3
  clear hM3
  clear hX1 hGB
  refine HRP.out.mono ?_
  rintro e w2 ⟨v, rfl, ho, b2⟩
  obtain ⟨ao, ac, rfl, hn⟩ := ho.slice
  rw [Bz.dig_length] at ho ⊢
  have HO := hid ho.src.1
  have HN := hid hn
  have R2 := hid (R1.out.kp (kpZ (Kp.of_below (F := fun _ => False) b2)) (fun x => x))
  have K2 := hid (K1.out.trans (Kp.of_below b2) (fun _ _ x => x))
  have B12 : Hid (X1.heap.size ≤ w2.heap.size) := b2.size
  have HOW : Hid (Bz.OwnI w2 GB (.slice (some ⟨GB, 0, none⟩) 3 3) (Bz.dig 2 5 3)) := .inr ⟨GB, 3, [], rfl, Nat.le_refl _, by rw [List.append_nil]; exact R2.out, rfl, by decide⟩
  have HLE : Hid ((Bz.dig 2 5 3).length + (Bz.dig 2 P L).length ≤ 140737488355328) := by show _ ≤ _; rw [Bz.dig_length, Bz.dig_length]; omega
  have HBS : Hid (GB ≤ w2.heap.size) := by have := HX.out; have := B12.out; show _ ≤ _; omega
  clear ho hn b2 HRP t0 t1
  go_wp2_with (first | (at_builtin; refine Bz.wpList_append_i rfl (.tmp 161) (.tmp 166) rfl GB _ _ rfl HOW.out ao L ac (Bz.dig 2 P L) rfl (Bz.dig_length _ _ _) HN.out HO.out HLE.out HBS.out ?_; intro v3 w3 o3 q3 n3 b3; obtain ⟨g3, c3, rfl, hc3, hs3⟩ := own_3 HM3.out o3; have S3 := hid hs3; have C3 := hid hc3; have B3 := hid b3; clear o3 b3 q3 n3 hc3 hs3) | (go_at_call 13; refine (HNU.out _ _).mono ?_; rintro e1 wx ⟨rfl, rfl⟩))
  subst hQ
  have KZ : Hid (Kp (fun _ => False) X w3) := Kp.of_below ((K2.out.below (Nat.le_refl _) (fun _ h => h.elim)).trans (B3.out.mono HGX.out))
  have hM3 := HM3.out
  exact W31.out _ _ M (5 + P * 2 ^ 3) _ c3 (by kernel_rfl) rfl KZ.out (by rw [hM3]; exact WO.out.ok (kpZ KZ.out)) (by have := HL.out; omega) (by have := HPL.out; rw [hM3, Nat.pow_add]; omega) C3.out S3.out
end Go.Proofs.Ythpocbpleffdpaa
