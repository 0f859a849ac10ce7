/- RegionsApart: both ranges. -/
import Derived.Test.YtopnfjgkgoeleaaZe
namespace Go.Proofs.Ytopnfjgkgoeleaa
open Go.RowKit Go.Shelf
attribute [local go_sem] Oper.semAt_some
set_option linter.unusedVariables false
set_option linter.unusedSimpArgs false
def eRA (bo : Option Addr) (n cb : Nat) (nn st : Int) (T6 T7 T8 : Nat) (q q1 q2 T17 : Nat) (f : Nat → Value) : Array Value := #[.slice bo n cb, .int .i64 nn, .int .i64 st, f 3, f 4, f 5, .pointer (some ⟨T6, 0, none⟩), .pointer (some ⟨T7, 0, none⟩), .pointer (some ⟨T8, 0, none⟩), f 9, f 10, f 11, f 12, f 13, f 14, .func (.func 57) #[] #[.pointer (some ⟨q, 0, none⟩)], .func (.func 62) #[] #[.pointer (some ⟨q1, 0, none⟩), .pointer (some ⟨q2, 0, none⟩)], .pointer (some ⟨T17, 0, none⟩), f 18, f 19, f 20, f 21, f 22, f 23, f 24, f 25, f 26, f 27, f 28, f 29, f 30, f 31, f 32, f 33, f 34, f 35, f 36, f 37, f 38, f 39, f 40, f 41, f 42, f 43, f 44, f 45, f 46, f 47, f 48, f 49, f 50, f 51, f 52, f 53, f 54, f 55, f 56, f 57, f 58, f 59, f 60, f 61, f 62, f 63, f 64, f 65, f 66, f 67, f 68, f 69, f 70, f 71, f 72, f 73, f 74, f 75, f 76, f 77, f 78, f 79, f 80, f 81, f 82, f 83, f 84, f 85, f 86, f 87, f 88, f 89, f 90, f 91, f 92, f 93, f 94, f 95, f 96, f 97, f 98, f 99, f 100, f 101, f 102, f 103, f 104, f 105, f 106, f 107, f 108, f 109, f 110, f 111, f 112, f 113, f 114, f 115, f 116, f 117, f 118, f 119, f 120, f 121, .func (.func 57) #[] #[.pointer (some ⟨q, 0, none⟩)], f 123, f 124, f 125, f 126, f 127, f 128, f 129, f 130, f 131, f 132, f 133, f 134, f 135, f 136, f 137, f 138, f 139, f 140, f 141, f 142, f 143, f 144, f 145, f 146, f 147, f 148, f 149, f 150, f 151, f 152, f 153, f 154, f 155, f 156, f 157, f 158, f 159, f 160, f 161, f 162, f 163, f 164, f 165, f 166, f 167, f 168, f 169, f 170, f 171, f 172, f 173, f 174, f 175, f 176, f 177, f 178, f 179, f 180, f 181, f 182, f 183, f 184, f 185, f 186, f 187, f 188, f 189, f 190, f 191, f 192, f 193, f 194, f 195, f 196, f 197, f 198, f 199, f 200, f 201, f 202, f 203, f 204, f 205, f 206, f 207, f 208, f 209, f 210, f 211, f 212, f 213, f 214, f 215, f 216, f 217, f 218, f 219, f 220, f 221, f 222, f 223, f 224, f 225, f 226, f 227, f 228, f 229, f 230, f 231, f 232, f 233, f 234, f 235, f 236, f 237, f 238, f 239, f 240, f 241, f 242, f 243, f 244, f 245, f 246, f 247, f 248, f 249, f 250, f 251, f 252, f 253, f 254, f 255, f 256, f 257, f 258, f 259, f 260, f 261, f 262, f 263, f 264, f 265, f 266, f 267, f 268, f 269, f 270, f 271, f 272, f 273, f 274, f 275, f 276, f 277, f 278, f 279, f 280, f 281, f 282, f 283, f 284, f 285, f 286, f 287, f 288, f 289, f 290, f 291, f 292, f 293, f 294, f 295, f 296, f 297, f 298, f 299, f 300, f 301, f 302, f 303]
def eRB (bo : Option Addr) (n cb : Nat) (nn st : Int) (T6 T7 T8 : Nat) (q q1 q2 T17 : Nat) (f : Nat → Value) : Array Value := #[.slice bo n cb, .int .i64 nn, .int .i64 st, f 3, f 4, f 5, .pointer (some ⟨T6, 0, none⟩), .pointer (some ⟨T7, 0, none⟩), .pointer (some ⟨T8, 0, none⟩), f 9, f 10, f 11, f 12, f 13, f 14, .func (.func 57) #[] #[.pointer (some ⟨q, 0, none⟩)], .func (.func 62) #[] #[.pointer (some ⟨q1, 0, none⟩), .pointer (some ⟨q2, 0, none⟩)], .pointer (some ⟨T17, 0, none⟩), f 18, f 19, f 20, f 21, f 22, f 23, f 24, f 25, f 26, f 27, f 28, f 29, f 30, f 31, f 32, f 33, f 34, f 35, f 36, f 37, f 38, f 39, f 40, f 41, f 42, f 43, f 44, f 45, f 46, f 47, f 48, f 49, f 50, f 51, f 52, f 53, f 54, f 55, f 56, f 57, f 58, f 59, f 60, f 61, f 62, f 63, f 64, f 65, f 66, f 67, f 68, f 69, f 70, f 71, f 72, f 73, f 74, f 75, f 76, f 77, f 78, f 79, f 80, f 81, f 82, f 83, f 84, f 85, f 86, f 87, f 88, f 89, f 90, f 91, f 92, f 93, f 94, f 95, f 96, f 97, f 98, f 99, f 100, f 101, f 102, f 103, f 104, f 105, f 106, f 107, f 108, f 109, f 110, f 111, f 112, f 113, f 114, f 115, f 116, f 117, f 118, f 119, f 120, f 121, f 122, f 123, f 124, f 125, f 126, f 127, f 128, f 129, f 130, f 131, f 132, f 133, f 134, f 135, f 136, f 137, f 138, f 139, f 140, f 141, f 142, f 143, f 144, f 145, f 146, f 147, f 148, f 149, f 150, .func (.func 62) #[] #[.pointer (some ⟨q1, 0, none⟩), .pointer (some ⟨q2, 0, none⟩)], f 152, f 153, f 154, f 155, f 156, f 157, f 158, f 159, f 160, f 161, f 162, f 163, f 164, f 165, f 166, f 167, f 168, f 169, f 170, f 171, f 172, f 173, f 174, f 175, f 176, f 177, f 178, f 179, f 180, f 181, f 182, f 183, f 184, f 185, f 186, f 187, f 188, f 189, f 190, f 191, f 192, f 193, f 194, f 195, f 196, f 197, f 198, f 199, f 200, f 201, f 202, f 203, f 204, f 205, f 206, f 207, f 208, f 209, f 210, f 211, f 212, f 213, f 214, f 215, f 216, f 217, f 218, f 219, f 220, f 221, f 222, f 223, f 224, f 225, f 226, f 227, f 228, f 229, f 230, f 231, f 232, f 233, f 234, f 235, f 236, f 237, f 238, f 239, f 240, f 241, f 242, f 243, f 244, f 245, f 246, f 247, f 248, f 249, f 250, f 251, f 252, f 253, f 254, f 255, f 256, f 257, f 258, f 259, f 260, f 261, f 262, f 263, f 264, f 265, f 266, f 267, f 268, f 269, f 270, f 271, f 272, f 273, f 274, f 275, f 276, f 277, f 278, f 279, f 280, f 281, f 282, f 283, f 284, f 285, f 286, f 287, f 288, f 289, f 290, f 291, f 292, f 293, f 294, f 295, f 296, f 297, f 298, f 299, f 300, f 301, f 302, f 303]
theorem kp_putG (W : World) (l : Nat) (o' : Obj) : Kp (fun i => i = l) W (W.putObj l o') := ⟨rfl, rfl, rfl, by simp, fun k _ hk => World.putObj_heap_other hk⟩
def mrk (D : Nat) : Deferred := { target := .collected D, args := #[] }
theorem endL_snoc (pre : List Rn) (x : Rn) : endL (pre ++ [x]) = x.e := by simp [endL]
set_option maxRecDepth 100000 in
set_option maxHeartbeats 8000000 in
theorem rngA_wp (w Y X : World) (bo : Option Addr) (n cb : Nat) (nn st : Int) (T6 T7 T8 B q q1 q2 T17 : Nat) (ao : Option Addr) (c : Nat) (L : List Rn) (A : Act) (ht : A.tmps = eRA bo n cb nn st T6 T7 T8 q q1 q2 T17 (fun i => A.tmps.getD i undef)) (hd : A.defers = [])
    (hY : LI w T6 B T7 T8 ao c L (sumL L) Y) (hT : T17 = Y.heap.size) (hXY : Kp (fun _ => False) Y X) (s17 : St 2 X T17 #[.int .i64 0]) (sq : St 73 X q #[.slice ao L.length c]) (hq : q < Y.heap.size) (hl : L.length ≤ 60) :
    cRA.wpIn Fence.wide 20 Try.prog (postN (fun a' Z => ∃ D, (∃ f', a' = { tmps := e20 bo n cb nn st T6 T7 T8 q q1 q2 T17 f', defers := [mrk D] }) ∧ X.heap.size ≤ D ∧ Z.heap[D]? = some (.deferred (some [])) ∧ Kp (fun _ => False) Y Z ∧ St 2 Z T17 #[.int .i64 (endL L)])) A X := by
  obtain ⟨f, rfl⟩ := act_of ht hd
  have HX := hid (hY.same hXY)
  have HY := hid hY
  have SQ := hid (val_seq 19 (by omega) q ao c L X (by omega) (hY.rg.lst.2.1) (HX.out.rg.lst.1) sq)
  have HKX := hid hXY
  have S17 := hid s17
  have L17 : Hid (T17 < X.heap.size) := s17.lt
  have LY : Hid (Y.heap.size ≤ X.heap.size) := hXY.size
  have NO : Hid (¬ RO q ao L T17) := by
    rintro (e | ⟨hp, off, e⟩)
    · omega
    · obtain ⟨g, of2, e2, hb, _⟩ := hY.rg.lst.1 hp
      rw [e] at e2
      cases e2
      omega
  have LO : Hid (∀ i, RO q ao L i → i < X.heap.size) := by
    rintro i (e | ⟨hp, off, e⟩)
    · rw [e]; exact sq.lt
    · obtain ⟨g, of2, e2, hb, _⟩ := HX.out.rg.lst.1 hp
      rw [e] at e2
      cases e2
      exact hb
  have HTY : Hid (Y.heap.size ≤ T17) := Nat.le_of_eq hT.symm
  clear hXY s17 sq ht hd hY hT
  unfold cRA eRA
  generalize hQ : postN _ = QQ
  gi_wp2_with fail
  refine wpIn_rangeFunc_P rfl (by omega) (gf := 57) (pb := #[]) (lb := #[.pointer (some ⟨q, 0, none⟩)]) rfl trivial (enters_of Try.func57 (by kernel_rfl) rfl) SQ.out LO.out (Below.refl _ _) (fun _ => rfl)
    (fun pre O Z => Kp (fun _ => False) Y Z ∧ St 2 Z T17 #[.int .i64 (endL pre)] ∧ ¬ O T17)
    (fun _ _ _ _ => False) ?hI (fun _ _ _ _ _ h _ => h.elim) ?hI2 (fun _ _ _ _ _ h _ => h.elim) ?h0
    (fun x a' Z => ∃ T18, X.heap.size + 1 < T18 ∧ Rn.B Z T18 x ∧ ∃ f', a' = { tmps := eBA bo n cb nn st T6 T7 T8 q q1 q2 T17 T18 f', defers := [] }) ?hAx ?assign ?body ?done (fun _ _ _ _ _ _ _ h _ => h.elim)
  case hI =>
    rintro s O Z1 Z2 ⟨k1, s1, o1⟩ kk
    have h1 := L17.out
    have h2 := LY.out
    have h3 := s1.lt
    exact ⟨k1.trans kk (fun i h h' => by have := h'.2; omega), s1.kp kk (fun x => by have := x.2; omega), fun x => x.elim o1 (fun x => by omega)⟩
  case hI2 =>
    rintro s O Z1 o' ⟨k1, s1, o1⟩ hlt
    have h1 := L17.out
    have h2 := LY.out
    exact ⟨k1.trans (kp_putG Z1 _ o') (fun i h h' => by omega), s1.kp (kp_putG Z1 _ o') (by omega), o1⟩
  case h0 =>
    intro r
    have ka : Kp (fun _ => False) X ((X.alloc (.deferred (some []))).alloc (.loop r)) := ((Kp.refl _ _).alloc _).alloc _
    exact ⟨HKX.out.trans ka (fun _ _ x => x), S17.out.kp ka (fun x => x), NO.out⟩
  case hAx =>
    rintro x a' Z o' ⟨T18, h1, h2, h3⟩
    exact ⟨T18, h1, h2.kp (kp_putG Z _ o') (by omega), h3⟩
  case assign =>
    intro l' pre O x Z1 Kk hll hsz hi hK
    have HK := hid hK
    have HI := hid hi
    have HSZ := hid hsz
    clear hK hi hll hsz
    obtain ⟨xk, xa, xn⟩ := x
    gi_wp2_with (first | (refine wpListIn_store_r (by rfl) (.tmp 18) (.tmp 123) rfl Z1.heap.size rfl (e := zRn) (e' := ⟨xk, xa, xn⟩) rfl (Rn.B.new Z1 zRn) ?_; intro w6 b6 j6; have k6 : Kp (fun _ => False) Z1 w6 := ((Kp.refl (fun _ => False) Z1).alloc _).trans j6 (fun i h1 h2 => by omega); have E6 := hid b6; have K6 := hid k6; clear b6 j6 k6))
    obtain ⟨k1, s1, o1⟩ := HI.out
    exact HK.out _ _ (K6.out.mono (fun _ _ x => x.elim)) ⟨k1.trans K6.out (fun _ _ x => x), s1.kp K6.out (fun x => x), o1⟩ ⟨_, HSZ.out, E6.out, act_of (by kernel_rfl) rfl⟩
  case body =>
    rintro l' pre O x a' Z hll hsz n1 n2 ⟨k1, s1, o1⟩ ⟨T18, h18, e18, f', rfl⟩ hlen ⟨j, hj, hsp⟩
    have hsrt : Srt (pre ++ [x]) := HY.out.rg.srt.sub (by rw [hsp]; exact List.take_sublist _ _)
    have hxL : x ∈ L := by
      have : x ∈ L.take j := by rw [← hsp]; simp
      exact List.mem_of_mem_take this
    have hxm := HY.out.rg.srt.1 x hxL
    have hge : endL pre ≤ x.a := endL_le (by unfold Mayr at hxm; omega) (fun y hy => (List.pairwise_append.1 hsrt.2).2.2 y hy x (by simp))
    have h17 := L17.out
    refine wpIn_mono (bodyA_wp l' w Y Z bo n cb nn st T6 T7 T8 B q q1 q2 T17 T18 ao c L (sumL L) x (endL pre) f' HY.out k1 s1 e18 hxL hge HTY.out (by omega)) ?_
    intro e a2 Z2 hh
    cases e with
    | normal =>
      obtain ⟨k2, s2⟩ := hh
      refine ⟨k2.mono (fun i _ e => ⟨by rw [e]; exact o1, by omega, by omega⟩), k1.trans k2 (fun i h1 h2 => by have := HTY.out; omega), by rw [endL_snoc]; exact s2, o1⟩
    | _ => exact hh.elim
  case done =>
    rintro D xs O Z hD hS ⟨k1, s1, _⟩ hdd
    subst hS
    have KD := hid hdd
    have K1 := hid k1
    have S1 := hid s1
    have HD : Hid (X.heap.size ≤ D) := Nat.le_of_eq hD.symm
    clear hdd k1 s1 hD
    gi_wp2
    subst hQ
    exact ⟨D, act_of (by kernel_rfl) rfl, HD.out, KD.out, K1.out, S1.out⟩
theorem sumG_snoc (pre : List (Int × Int)) (g : Int × Int) : sumG (pre ++ [g]) = sumG pre + g.2 := by
  induction pre with
  | nil => simp [sumG]
  | cons x pre ih => rw [List.cons_append, sumG_cons, sumG_cons, ih]; omega
theorem sumG_app (A B : List (Int × Int)) : sumG (A ++ B) = sumG A + sumG B := by
  induction A with
  | nil => simp [sumG]
  | cons x pre ih => rw [List.cons_append, sumG_cons, sumG_cons, ih]; omega
theorem sumG_pos {A : List (Int × Int)} (h : ∀ g ∈ A, 1 ≤ g.2) : 0 ≤ sumG A := by
  induction A with
  | nil => exact Int.le_refl _
  | cons x A ih =>
    have := ih (fun y hy => h y (by simp [hy]))
    have := h x (by simp)
    rw [sumG_cons]
    omega
set_option maxRecDepth 100000 in
set_option maxHeartbeats 8000000 in
theorem rngB_wp (w Y : World) (bo : Option Addr) (n cb : Nat) (nn st : Int) (T6 T7 T8 B q q1 q2 T17 D0 : Nat) (ao : Option Addr) (c : Nat) (L : List Rn) (A : Act) (ht : A.tmps = eRB bo n cb nn st T6 T7 T8 q q1 q2 T17 (fun i => A.tmps.getD i undef)) (hd : A.defers = [mrk D0])
    (hY : LI w T6 B T7 T8 ao c L (sumL L) Y) (s1 : St 73 Y q1 #[.slice ao L.length c]) (s2 : St 2 Y q2 #[.int .i64 (endL L)]) (h1 : T8 < q1) (h2 : T8 < q2) (hl : L.length ≤ 60) :
    cRB.wpIn Fence.wide 20 Try.prog (postN (fun a' Z => ∃ D, (∃ f', a' = { tmps := e20 bo n cb nn st T6 T7 T8 q q1 q2 T17 f', defers := [mrk D, mrk D0] }) ∧ Y.heap.size ≤ D ∧ Z.heap[D]? = some (.deferred (some [])) ∧ Kp (fun i => i = T8) Y Z ∧ St 2 Z T8 #[.int .i64 (endL L)])) A Y := by
  obtain ⟨f, rfl⟩ := act_of ht hd
  have HY := hid hY
  have SQ := hid (gap_seq 19 (by omega) q1 q2 ao c L (endL L) Y (by have := endL_bd hY.rg.srt; omega) (by omega) (hY.rg.lst.2.1) hY.rg.srt (hY.rg.lst.1) s1 s2)
  have L8 : Hid (T8 < Y.heap.size) := hY.s8.lt
  have NO : Hid (¬ ROg q1 q2 ao L T8) := by
    rintro (e | e | ⟨hp, off, e⟩)
    · omega
    · omega
    · have := hY.ha _ _ e; omega
  have LO : Hid (∀ i, ROg q1 q2 ao L i → i < Y.heap.size) := by
    rintro i (e | e | ⟨hp, off, e⟩)
    · rw [e]; exact s1.lt
    · rw [e]; exact s2.lt
    · obtain ⟨g, of2, e2, hb, _⟩ := hY.rg.lst.1 hp
      rw [e] at e2
      cases e2
      exact hb
  obtain ⟨hgap, hsum⟩ := all_gaps hY.rg.srt
  have HG := hid hgap
  have HS := hid hsum
  have HB := hid (sumL_bd hY.rg.srt)
  have HE := hid (endL_bd hY.rg.srt)
  have S8 := hid hY.s8
  clear ht hd hY s1 s2 hgap hsum
  unfold cRB eRB
  generalize hQ : postN _ = QQ
  gi_wp2_with fail
  refine wpIn_rangeFunc_P rfl (by omega) (gf := 62) (pb := #[]) (lb := #[.pointer (some ⟨q1, 0, none⟩), .pointer (some ⟨q2, 0, none⟩)]) rfl trivial (enters_of Try.func62 (by kernel_rfl) rfl) SQ.out LO.out (Below.refl _ _) (fun _ => rfl)
    (fun pre O Z => Kp (fun i => i = T8) Y Z ∧ St 2 Z T8 #[.int .i64 (sumL L + sumG pre)] ∧ ¬ O T8)
    (fun _ _ _ _ => False) ?hI (fun _ _ _ _ _ h _ => h.elim) ?hI2 (fun _ _ _ _ _ h _ => h.elim) ?h0
    (fun g a' Z => ∃ f', a' = { tmps := eBB bo n cb nn st T6 T7 T8 q q1 q2 T17 g.1 g.2 f', defers := [] }) (fun _ _ _ _ h => h) ?assign ?body ?done (fun _ _ _ _ _ _ _ h _ => h.elim)
  case hI =>
    rintro s O Z1 Z2 ⟨k1, s1, o1⟩ kk
    have h1 := L8.out
    have h3 := s1.lt
    exact ⟨k1.trans kk (fun i h h' => by have := h'.2; omega), s1.kp kk (fun x => by have := x.2; omega), fun x => x.elim o1 (fun x => by omega)⟩
  case hI2 =>
    rintro s O Z1 o' ⟨k1, s1, o1⟩ hlt
    have h1 := L8.out
    exact ⟨k1.trans (kp_putG Z1 _ o') (fun i h h' => by omega), s1.kp (kp_putG Z1 _ o') (by omega), o1⟩
  case h0 =>
    intro r
    have ka : Kp (fun _ => False) Y ((Y.alloc (.deferred (some []))).alloc (.loop r)) := ((Kp.refl _ _).alloc _).alloc _
    exact ⟨ka.mono (fun _ _ x => x.elim), by have := S8.out.kp ka (fun x => x); simpa [sumG] using this, NO.out⟩
  case assign =>
    intro l' pre O x Z1 Kk hll hsz hi hK
    have HK := hid hK
    have HI := hid hi
    clear hK hi hll hsz
    gi_wp2
    exact HK.out _ _ (Kp.refl _ _) HI.out (act_of (by kernel_rfl) rfl)
  case body =>
    rintro l' pre O x a' Z hll hsz n1 n2 ⟨k1, s1, o1⟩ ⟨f', rfl⟩ hlen ⟨rest, hsp⟩
    have hxm : x ∈ gps (endL L) 0 L := by rw [← hsp]; simp
    have hgx := HG.out x hxm
    have hs1 := HS.out
    rw [← hsp, sumG_app, sumG_snoc] at hs1
    have hr : 0 ≤ sumG rest := sumG_pos (fun g hg => (HG.out g (by rw [← hsp]; simp [hg])).1)
    have hp : 0 ≤ sumG pre := sumG_pos (fun g hg => (HG.out g (by rw [← hsp]; simp [hg])).1)
    have hb := HB.out
    have he := HE.out
    have h8 := L8.out
    obtain ⟨ga, gk⟩ := x
    dsimp only at hs1
    refine wpIn_mono (bodyB_wp l' w Y Z bo n cb nn st T6 T7 T8 B q q1 q2 T17 ao c L (sumL L) (sumL L + sumG pre) ga gk f' HY.out k1 s1 hgx (by have := hgx.1; dsimp only at this; omega)) ?_
    intro e a2 Z2 hh
    cases e with
    | normal =>
      obtain ⟨k2, s2⟩ := hh
      refine ⟨k2.mono (fun i _ e => ⟨by rw [e]; exact o1, by omega, by omega⟩), k1.trans k2 (fun i _ h => h), by rw [sumG_snoc]; rw [show sumL L + (sumG pre + gk) = sumL L + sumG pre + gk by omega]; exact s2, o1⟩
    | _ => exact hh.elim
  case done =>
    rintro D xs O Z hD hS ⟨k1, s1, _⟩ hdd
    subst hS
    have hs := HS.out
    rw [show sumL L + sumG (gps (endL L) 0 L) = endL L by omega] at s1
    have KD := hid hdd
    have K1 := hid k1
    have S1 := hid s1
    have HD : Hid (Y.heap.size ≤ D) := Nat.le_of_eq hD.symm
    clear hdd k1 s1 hD hs
    gi_wp2
    subst hQ
    exact ⟨D, act_of (by kernel_rfl) rfl, HD.out, KD.out, K1.out, S1.out⟩
end Go.Proofs.Ytopnfjgkgoeleaa
