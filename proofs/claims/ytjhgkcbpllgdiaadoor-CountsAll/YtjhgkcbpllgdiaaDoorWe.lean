/- counts: Widen where both orders may be. -/
import Derived.Test.YtjhgkcbpllgdiaaDoorWd
import Derived.Test.YtjhgkcbpllgdiaaDoorRx
namespace Go.Proofs.YtjhgkcbpllgdiaaDoor
open Go.RowKit Go.Shelf
attribute [local go_sem] Oper.semAt_some
set_option linter.unusedVariables false
/-- What Widen stands on ahead of its loop: the answer's cells, the two rows, the new bytes. -/
structure WiB (w X : World) (c6 c7 b8 b10 G : Nat) (v8 : Value) (W V n : Nat) (L : List Int) : Prop where
  kp : Kp (fun _ => False) w X
  rc : RC X c6 c7 (.slice none 0 0) (.int .i64 0)
  r8 : Rb X b8 v8 W
  r10 : Rb X b10 (.slice (some ⟨G, 0, none⟩) n n) V
  row : Rw .u8 5 X G L
  l6 : w.heap.size ≤ c6
  l7 : w.heap.size ≤ c7
  l8 : w.heap.size ≤ b8
  l10 : w.heap.size ≤ b10
  lG : w.heap.size ≤ G
  n67 : c6 ≠ c7
  n8 : b8 ≠ c6 ∧ b8 ≠ c7
  n10 : b10 ≠ c6 ∧ b10 ≠ c7 ∧ b10 ≠ b8
  nG : G ≠ c6 ∧ G ≠ c7 ∧ G ≠ b8 ∧ G ≠ b10
def WiP (zs : List Int) (W V M : Nat) (w : World) (e : Ending) (w' : World) : Prop := ∃ ao c R E, e = .returned (.tuple #[.slice ao R.length c, .int .i64 E]) ∧ WidR zs W V M R E ∧ Src .u8 w' ao R ∧ (∀ i off, ao = some ⟨i, off, none⟩ → w.heap.size ≤ i ∧ i < w'.heap.size) ∧ (ao = none → c = 0) ∧ Kp (fun _ => False) w w'
/-- What its loop keeps. -/
structure WiI (X : World) (c6 c7 b10 G : Nat) (zs : List Int) (W V M : Nat) (MM : Int) (pre : List (Ex zs W M)) (O : Nat → Prop) (Y : World) : Prop where
  kp : Kp (fun i => i = G) X Y
  row : Rw .u8 5 Y G (wl zs W V (rm M V) (idx pre))
  fits : ∀ i, i ∈ idx pre → ct zs W i ≤ MM
  nG : ¬ O G
  n10 : ¬ O b10
  n6 : ¬ O c6
  n7 : ¬ O c7
/-- What it leaves where it is left. -/
structure WiX (X : World) (c6 c7 G : Nat) (zs : List Int) (W M : Nat) (MM : Int) (c : Code) (O : Nat → Prop) (Y : World) : Prop where
  ret : c = .ret
  kp : Kp (fun i => i = G ∨ i = c6 ∨ i = c7) X Y
  rc : RC Y c6 c7 (.slice none 0 0) (.int .i64 3)
  big : ∃ i, i < M ∧ MM < ct zs W i
  n6 : ¬ O c6
  n7 : ¬ O c7
theorem kp_putG (W : World) (l : Nat) (o' : Obj) : Kp (fun i => i = l) W (W.putObj l o') := ⟨rfl, rfl, rfl, by simp, fun k _ hk => World.putObj_heap_other (fun e => hk e)⟩
theorem WiI.abd {X : World} {c6 c7 b10 G : Nat} {zs : List Int} {W V M : Nat} {MM : Int} {pre : List (Ex zs W M)} {O : Nat → Prop} {Y Z : World} (h : WiI X c6 c7 b10 G zs W V M MM pre O Y) (hl : c6 < X.heap.size ∧ c7 < X.heap.size ∧ b10 < X.heap.size ∧ G < X.heap.size) (k : Kp (fun i => O i ∧ X.heap.size ≤ i) Y Z) :
    WiI X c6 c7 b10 G zs W V M MM pre (fun i => O i ∨ (Y.heap.size ≤ i ∧ i < Z.heap.size)) Z := by
  have hs := h.kp.size
  exact ⟨h.kp.trans k (fun i h1 h2 => by omega), h.row.kp k (fun x => by omega), h.fits, fun x => x.elim h.nG (fun x => by omega), fun x => x.elim h.n10 (fun x => by omega), fun x => x.elim h.n6 (fun x => by omega), fun x => x.elim h.n7 (fun x => by omega)⟩
theorem WiI.put {X : World} {c6 c7 b10 G : Nat} {zs : List Int} {W V M : Nat} {MM : Int} {pre : List (Ex zs W M)} {O : Nat → Prop} {Y : World} {o' : Obj} (h : WiI X c6 c7 b10 G zs W V M MM pre O Y) (hl : c6 < X.heap.size ∧ c7 < X.heap.size ∧ b10 < X.heap.size ∧ G < X.heap.size) :
    WiI X c6 c7 b10 G zs W V M MM pre O (Y.putObj (X.heap.size + 1) o') :=
  ⟨h.kp.trans (kp_putG Y _ o') (fun i h1 h2 => by omega), h.row.kp (kp_putG Y _ o') (by omega), h.fits, h.nG, h.n10, h.n6, h.n7⟩
theorem WiX.abd {X : World} {c6 c7 b10 G : Nat} {zs : List Int} {W M : Nat} {MM : Int} {c : Code} {O : Nat → Prop} {Y Z : World} (h : WiX X c6 c7 G zs W M MM c O Y) (hl : c6 < X.heap.size ∧ c7 < X.heap.size ∧ b10 < X.heap.size ∧ G < X.heap.size) (k : Kp (fun i => O i ∧ X.heap.size ≤ i) Y Z) :
    WiX X c6 c7 G zs W M MM c (fun i => O i ∨ (Y.heap.size ≤ i ∧ i < Z.heap.size)) Z := by
  have hs := h.kp.size
  exact ⟨h.ret, h.kp.trans k (fun i h1 h2 => by omega), h.rc.kp k (fun x => by omega) (fun x => by omega), h.big, fun x => x.elim h.n6 (fun x => by omega), fun x => x.elim h.n7 (fun x => by omega)⟩
theorem WiX.put {X : World} {c6 c7 b10 G : Nat} {zs : List Int} {W M : Nat} {MM : Int} {c : Code} {O : Nat → Prop} {Y : World} {o' : Obj} (h : WiX X c6 c7 G zs W M MM c O Y) (hl : c6 < X.heap.size ∧ c7 < X.heap.size ∧ b10 < X.heap.size ∧ G < X.heap.size) :
    WiX X c6 c7 G zs W M MM c O (Y.putObj (X.heap.size + 1) o') :=
  ⟨h.ret, h.kp.trans (kp_putG Y _ o') (fun i h1 h2 => by omega), h.rc.kp (kp_putG Y _ o') (by omega) (by omega), h.big, h.n6, h.n7⟩
theorem wib_mk {w w1 w3 w5 w7 : World} {c6 b8 b10 G : Nat} {v8 : Value} {W V n : Nat} {L : List Int} (K6 : Kp (fun _ => False) w w5) (R6 : RC w5 c6 (c6 + 1) (.slice none 0 0) (.int .i64 0)) (B7 : Rb w5 b8 v8 W) (K9 : Kp (fun _ => False) w5 w7) (E8 : Rb w7 b10 (.slice none 0 0) V) (RW : Rw .u8 5 w7 G L)
    (HC6 : c6 = w.heap.size) (HB8 : b8 = w1.heap.size) (HB10 : b10 = w3.heap.size) (HG : w5.heap.size ≤ G) (H8 : w.heap.size + 1 < w3.heap.size) (H9 : w1.heap.size < w3.heap.size) (H1 : w.heap.size ≤ w1.heap.size) (H7 : w.heap.size + 1 < w1.heap.size) (H10 : b10 < w5.heap.size) :
    WiB w (w7.setCell ⟨b10, 0, none⟩ (.slice (some ⟨G, 0, none⟩) n n)) c6 (c6 + 1) b8 b10 G v8 W V n L := by
  have k := kp_setCell w7 b10 0 (.slice (some ⟨G, 0, none⟩) n n) (fun i => i = b10) rfl
  have k0 := K6.trans K9 (fun _ _ x => x)
  refine ⟨k0.trans k (fun i h1 h2 => by omega), (R6.kp K9 (fun x => x) (fun x => x)).kp k (by omega) (by omega), (B7.kp K9 (fun x => x)).kp k (by omega), St.set E8 0 _, RW.kp k (by omega), by omega, by omega, by omega, by omega, by have := K6.size; omega, by omega, ⟨by omega, by omega⟩, ⟨by omega, by omega, by omega⟩, ⟨?_, ?_, ?_, ?_⟩⟩
  · have := R6.s6.lt; omega
  · have := R6.s7.lt; omega
  · have := B7.lt; omega
  · omega
def postN (S : Act → World → Prop) : Exit → Act → World → Prop
  | .normal, a, w => S a w
  | _, _, _ => False
set_option maxRecDepth 100000 in
set_option maxHeartbeats 4000000 in
theorem widen_in (ao : Option Addr) (cap o t : Nat) (zs : List Int) (w : World) (hl : zs.length ≤ 1000000000) (hz : Byt zs) (ho : o < 7) (ht : t < 7) (hw : Wd w) (hs : Src .u8 w ao zs) : Calls Tryd.prog 20 #[.slice ao zs.length cap, .int .i64 (o : Int), .int .i64 (t : Int)] w fun e w' => WiP zs (2 ^ o) (2 ^ t) (8 * zs.length / 2 ^ o) w e w' := by
  refine (callsIn_wide (n := 9)).1 ?_
  have hM8 : 8 * zs.length / 2 ^ o ≤ 8000000000 := Nat.le_trans (Nat.div_le_self _ _) (by omega)
  have LO := hid (fun (X : World) (h : Wd X) => laid_ok ao zs.length cap o X ho h)
  have LT := hid (fun (X : World) (h : Wd X) => laid_ok none 0 0 t X ht h)
  have MN := hid (fun w => many_any ao zs.length cap (2 ^ o) w (by omega) (pow_pos7 o))
  have RMM := hid (fun w => room_any (.slice none 0 0) (2 ^ t) (8 * zs.length / 2 ^ o) w ⟨_, _, _, rfl⟩ (w64 ht) hM8)
  have SQ := hid (fun (X : World) (k : Kp (fun _ => False) w X) => all_seq (9 - 1) (by omega) ao cap zs (2 ^ o) (8 * zs.length / 2 ^ o) X hl hz (pow_pos7 o) (w64 ho) rfl (hs.kp0 k))
  have MO := hid (fun v w => most_any v t w ht)
  have SE := hid (fun (G c i n : Nat) (ys : List Int) (x : Int) (X : World) (hn : ys.length = n) (hn2 : n ≤ 64000000001) (hy : Byt ys) (hf : i * 2 ^ t + 2 ^ t ≤ 8 * n) (hx : 0 ≤ x ∧ x < 18446744073709551616) (hr : Rw .u8 5 X G ys) => (by
    subst hn
    have h := set_any G c (2 ^ t) i ys [] x X (by omega) hy (pow_pos7 t) (w64 ht) hf hx.1 hx.2 (by rw [List.append_nil]; exact hr)
    refine h.mono ?_
    rintro e w' ⟨h1, h2, h3⟩
    rw [List.append_nil] at h2
    exact ⟨h1, h2, h3⟩ : Calls Tryd.prog 33 #[.agg (rc (.slice (some ⟨G, 0, none⟩) n c) (2 ^ t)), .int .i64 (i : Int), .int .u64 x] X fun e w' => (∃ v, e = .returned v) ∧ Rw .u8 5 w' G (sb ys (i * 2 ^ t) (2 ^ t) x) ∧ Kp (fun k => k = G) X w'))
  have W0 := hid hw
  have HS := hid hs
  have A1 := St.new 22 w #[.slice none 0 0]
  have A2 := St.new 27 (w.alloc (.cells #[.slice none 0 0] 22)) #[.int .i64 0]
  have k2 : Kp (fun _ => False) w ((w.alloc (.cells #[.slice none 0 0] 22)).alloc (.cells #[.int .i64 0] 27)) := ((Kp.refl _ _).alloc _).alloc _
  have R0 : Hid (RC ((w.alloc (.cells #[.slice none 0 0] 22)).alloc (.cells #[.int .i64 0] 27)) w.heap.size (w.heap.size + 1) (.slice none 0 0) (.int .i64 0)) := ⟨A1.kp ((Kp.refl (fun _ => False) _).alloc _) (fun x => x), by rw [World.size_alloc] at A2; exact A2⟩
  have K0 := hid k2
  have hMst : mst (2 ^ t) = 2 ^ (2 ^ t) - 1 := rfl
  have HMS := hid hMst
  have hr : rm (8 * zs.length / 2 ^ o) (2 ^ t) ≤ 64000000001 := by
    have := Nat.mul_le_mul hM8 (w64 ht)
    unfold rm; omega
  have h64 : ∀ i, ct zs (2 ^ o) i < 18446744073709551616 := fun i => by
    have h1 := pow2_le (w64 ho)
    have e : (2 : Int) ^ 64 = 18446744073709551616 := by decide
    rw [e] at h1
    exact Int.lt_of_lt_of_le (ct_b zs _ i).2 h1
  have H64 := hid h64
  clear A1 A2 k2 hw hs hz hMst h64
  generalize 2 ^ o = W at *
  generalize 2 ^ t = V at *
  generalize 8 * zs.length / W = M at *
  generalize mst V = MM at *
  refine callsIn_of_wp_marks Tryd.func20 rfl trivial ?_ rfl
  simp only [Tryd.ntmps20, List.size_toArray, List.length_cons, List.length_nil, Nat.reduceAdd, Nat.reduceSub, Array.replicate_succ, Array.replicate_zero, List.push_toArray, List.append_toArray, List.nil_append, List.cons_append]
  gi_wp2_with fail
  refine ⟨trivial, (callsIn_wide.2 (LO.out _ (W0.out.kp K0.out (fun x => x)))).mono ?_⟩
  rintro r w1 ⟨rfl, k1⟩
  have K1 := hid (K0.out.trans k1 (fun _ _ x => x))
  have R1 := hid (R0.out.kp k1 (fun x => x) (fun x => x))
  have B2 := hid (Rb.new w1 (.slice none 0 0) 0)
  have R2 := hid (R1.out.kp ((Kp.refl (fun _ => False) w1).alloc (.cells (rc (.slice none 0 0) 0) 58)) (fun x => x) (fun x => x))
  have K2 : Hid (Kp (fun _ => False) w (w1.alloc (.cells (rc (.slice none 0 0) 0) 58))) := K1.out.alloc _
  have H7 : Hid (w.heap.size + 1 < w1.heap.size) := R1.out.s7.lt
  clear k1
  gi_wp2_with (refine wpListIn_store_rb (by rfl) (.tmp 8) (.tmp 17) rfl w1.heap.size rfl (W' := W) rfl B2.out ?_; intro w2 b2 k2; have K3 := hid (K2.out.trans k2 (fun i h1 h2 => by have := k2.size; have := K1.out.size; omega)); have R3 := hid (R2.out.kp k2 (by have := H7.out; omega) (by have := H7.out; omega)); have B3 := hid b2; clear k2 b2)
  refine ⟨trivial, (callsIn_wide.2 (LT.out _ (W0.out.kp K3.out (fun x => x)))).mono ?_⟩
  rintro r w3 ⟨rfl, k3⟩
  have K4 := hid (K3.out.trans k3 (fun _ _ x => x))
  have R4 := hid (R3.out.kp k3 (fun x => x) (fun x => x))
  have B4 := hid (B3.out.kp k3 (fun x => x))
  have B5 := hid (Rb.new w3 (.slice none 0 0) 0)
  have ka := (Kp.refl (fun _ => False) w3).alloc (.cells (rc (.slice none 0 0) 0) 58)
  have R5 := hid (R4.out.kp ka (fun x => x) (fun x => x))
  have B6 := hid (B4.out.kp ka (fun x => x))
  have K5 : Hid (Kp (fun _ => False) w (w3.alloc (.cells (rc (.slice none 0 0) 0) 58))) := K4.out.alloc _
  have H8 : Hid (w.heap.size + 1 < w3.heap.size) := R4.out.s7.lt
  have H9 : Hid (w1.heap.size < w3.heap.size) := B4.out.lt
  clear k3 ka
  gi_wp2_with (refine wpListIn_store_rb (by rfl) (.tmp 10) (.tmp 25) rfl w3.heap.size rfl (W' := V) rfl B5.out ?_; intro w5 b5 k5; have K6 := hid (K5.out.trans k5 (fun i h1 h2 => by have := k5.size; have := K4.out.size; omega)); have R6 := hid (R5.out.kp k5 (by have := H8.out; omega) (by have := H8.out; omega)); have B7 := hid (B6.out.kp k5 (by have := H9.out; omega)); have B8 := hid b5; clear k5 b5)
  have hmx : Tryd.prog.follows .mixedOrders = true := hmix
  obtain ⟨c6, hc6⟩ : ∃ c, c = w.heap.size := ⟨_, rfl⟩
  obtain ⟨b8, hb8⟩ : ∃ c, c = w1.heap.size := ⟨_, rfl⟩
  obtain ⟨b10, hb10⟩ : ∃ c, c = w3.heap.size := ⟨_, rfl⟩
  have HC6 := hid hc6
  have HB8 := hid hb8
  have HB10 := hid hb10
  rw [← hc6] at R6 ⊢
  rw [← hb8] at B7 ⊢
  rw [← hb10] at B8 ⊢
  clear hc6 hb8 hb10
  have KD : Hid (Kp (fun _ => False) w5 w5.drew) := (Kp.refl _ _).drew
  have C7 := hid (B7.out.kp KD.out (fun x => x))
  have C8 := hid (B8.out.kp KD.out (fun x => x))
  refine wpIn_mono (Q := postN (fun a' X => ∃ G, a' = { tmps := #[.slice ao zs.length cap, .int .i64 (o : Int), .int .i64 (t : Int), undef, undef, undef, .pointer (some ⟨c6, 0, none⟩), .pointer (some ⟨c6 + 1, 0, none⟩), .pointer (some ⟨b8, 0, none⟩), .int .i64 0, .pointer (some ⟨b10, 0, none⟩), undef, undef, .tuple #[.agg (rc (.slice ao zs.length cap) W), .int .i64 0], .slice ao zs.length cap, .int .i64 (o : Int), .tuple #[.agg (rc (.slice ao zs.length cap) W), .int .i64 0], .agg (rc (.slice ao zs.length cap) W), .int .i64 0, .int .i64 0, .bool false, undef, .tuple #[.agg (rc (.slice none 0 0) V), .int .i64 0], .int .i64 (t : Int), .tuple #[.agg (rc (.slice none 0 0) V), .int .i64 0], .agg (rc (.slice none 0 0) V), .int .i64 0, .int .i64 0, .bool false, undef, .agg (rc (.slice none 0 0) V), .agg (rc (.slice ao zs.length cap) W), .int .i64 (M : Int), .slice (some ⟨G, 0, none⟩) (rm M V) (rm M V), .pointer (some ⟨b10, 0, none⟩), undef, undef, undef, undef, undef, undef, undef, undef, undef, undef, undef, undef, undef, undef], defers := [] } ∧ WiB w X c6 (c6 + 1) b8 b10 G (.slice ao zs.length cap) W V (rm M V) (List.replicate (rm M V) 0))) ?_ ?_
  · refine wpIn_region_any hmx ?_
    change wpAnyIn _ _ _ _ _ _ (5 + 1) _ _ w5.drew
    refine any_two (i := 0) (j := 1) (by kernel_rfl) rfl rfl ?_ ?_
    · gi_wp2_with (refine wpListIn_load_rb (by rfl) (.tmp 10) rfl b10 rfl C8.out ?_)
      refine any_one (i := 1) (by kernel_rfl) rfl ?_
      gi_wp2_with (refine wpListIn_load_rb (by rfl) (.tmp 8) rfl b8 rfl C7.out ?_)
      refine any_one (i := 2) (by kernel_rfl) rfl ?_
      gi_wp2_with fail
      refine ⟨trivial, (callsIn_wide.2 (MN.out _)).mono ?_⟩
      rintro r w6 ⟨rfl, k6⟩
      have D7 := hid (C7.out.kp k6 (fun x => x))
      have D8 := hid (C8.out.kp k6 (fun x => x))
      have K8 := hid (KD.out.trans k6 (fun _ _ x => x))
      clear k6
      gi_wp2_with fail
      refine any_one (i := 3) (by kernel_rfl) rfl ?_
      gi_wp2_with fail
      refine ⟨trivial, (callsIn_wide.2 (RMM.out _)).mono ?_⟩
      rintro r w7 ⟨G, rfl, hG, row7, k7⟩
      have E7 := hid (D7.out.kp k7 (fun x => x))
      have E8 := hid (D8.out.kp k7 (fun x => x))
      have K9 := hid (K8.out.trans k7 (fun _ _ x => x))
      have HG := hid hG
      have RW7 := hid row7
      have HG6 : Hid (w5.heap.size ≤ G) := Nat.le_trans K8.out.size hG
      clear k7 hG row7
      gi_wp2_with fail
      refine any_one (i := 4) (by kernel_rfl) rfl ?_
      gi_wp2_with fail
      refine any_one (i := 5) (by kernel_rfl) rfl ?_
      have f10 := St.frozen E8.out 0
      have c10 := E8.out.c0
      gi_wp2_with fail
      refine any_end (by kernel_rfl) ?_
      exact ⟨G, rfl, wib_mk K6.out R6.out B7.out K9.out E8.out RW7.out HC6.out HB8.out HB10.out HG6.out H8.out H9.out K1.out.size H7.out B8.out.lt⟩
    · gi_wp2_with (refine wpListIn_load_rb (by rfl) (.tmp 8) rfl b8 rfl C7.out ?_)
      refine any_two (i := 0) (j := 2) (by kernel_rfl) rfl rfl ?_ ?_
      · gi_wp2_with (refine wpListIn_load_rb (by rfl) (.tmp 10) rfl b10 rfl C8.out ?_)
        refine any_one (i := 2) (by kernel_rfl) rfl ?_
        gi_wp2_with fail
        refine ⟨trivial, (callsIn_wide.2 (MN.out _)).mono ?_⟩
        rintro r w6 ⟨rfl, k6⟩
        have D7 := hid (C7.out.kp k6 (fun x => x))
        have D8 := hid (C8.out.kp k6 (fun x => x))
        have K8 := hid (KD.out.trans k6 (fun _ _ x => x))
        clear k6
        gi_wp2_with fail
        refine any_one (i := 3) (by kernel_rfl) rfl ?_
        gi_wp2_with fail
        refine ⟨trivial, (callsIn_wide.2 (RMM.out _)).mono ?_⟩
        rintro r w7 ⟨G, rfl, hG, row7, k7⟩
        have E7 := hid (D7.out.kp k7 (fun x => x))
        have E8 := hid (D8.out.kp k7 (fun x => x))
        have K9 := hid (K8.out.trans k7 (fun _ _ x => x))
        have HG := hid hG
        have RW7 := hid row7
        have HG6 : Hid (w5.heap.size ≤ G) := Nat.le_trans K8.out.size hG
        clear k7 hG row7
        gi_wp2_with fail
        refine any_one (i := 4) (by kernel_rfl) rfl ?_
        gi_wp2_with fail
        refine any_one (i := 5) (by kernel_rfl) rfl ?_
        have f10 := St.frozen E8.out 0
        have c10 := E8.out.c0
        gi_wp2_with fail
        refine any_end (by kernel_rfl) ?_
        exact ⟨G, rfl, wib_mk K6.out R6.out B7.out K9.out E8.out RW7.out HC6.out HB8.out HB10.out HG6.out H8.out H9.out K1.out.size H7.out B8.out.lt⟩
      · gi_wp2_with fail
        refine ⟨trivial, (callsIn_wide.2 (MN.out _)).mono ?_⟩
        rintro r w6 ⟨rfl, k6⟩
        have D7 := hid (C7.out.kp k6 (fun x => x))
        have D8 := hid (C8.out.kp k6 (fun x => x))
        have K8 := hid (KD.out.trans k6 (fun _ _ x => x))
        clear k6
        gi_wp2_with fail
        refine any_one (i := 0) (by kernel_rfl) rfl ?_
        gi_wp2_with (refine wpListIn_load_rb (by rfl) (.tmp 10) rfl b10 rfl D8.out ?_)
        refine any_one (i := 3) (by kernel_rfl) rfl ?_
        gi_wp2_with fail
        refine ⟨trivial, (callsIn_wide.2 (RMM.out _)).mono ?_⟩
        rintro r w7 ⟨G, rfl, hG, row7, k7⟩
        have E7 := hid (D7.out.kp k7 (fun x => x))
        have E8 := hid (D8.out.kp k7 (fun x => x))
        have K9 := hid (K8.out.trans k7 (fun _ _ x => x))
        have HG := hid hG
        have RW7 := hid row7
        have HG6 : Hid (w5.heap.size ≤ G) := Nat.le_trans K8.out.size hG
        clear k7 hG row7
        gi_wp2_with fail
        refine any_one (i := 4) (by kernel_rfl) rfl ?_
        gi_wp2_with fail
        refine any_one (i := 5) (by kernel_rfl) rfl ?_
        have f10 := St.frozen E8.out 0
        have c10 := E8.out.c0
        gi_wp2_with fail
        refine any_end (by kernel_rfl) ?_
        exact ⟨G, rfl, wib_mk K6.out R6.out B7.out K9.out E8.out RW7.out HC6.out HB8.out HB10.out HG6.out H8.out H9.out K1.out.size H7.out B8.out.lt⟩
  · intro e a' X hh
    cases e with
    | normal =>
      obtain ⟨G, rfl, wb⟩ := hh
      have WB := hid wb
      have SS := hid (SQ.out X wb.kp)
      have LS : Hid (∀ i, RO ao zs i → i < w.heap.size) := (by
        rintro i ⟨hp, off, e⟩
        obtain ⟨g, of2, e2, hc⟩ := HS.out hp
        rw [e] at e2
        cases e2
        exact block_lt_of_cell (hc 0 hp))
      have LX : Hid (w.heap.size ≤ X.heap.size) := wb.kp.size
      have L6 : Hid (c6 < X.heap.size ∧ c6 + 1 < X.heap.size ∧ b10 < X.heap.size ∧ G < X.heap.size) := ⟨wb.rc.s6.lt, wb.rc.s7.lt, wb.r10.lt, wb.row.lt⟩
      have R8 := hid wb.r8
      clear wb KD C7 C8 B7 B8 R6 B2 R2 B3 B4 B5 B6 R5 R4 R3 R1 R0 K0 K1 K2 K3 K4 K5 K6 H7 H8 H9 HC6 HB8 HB10 LO LT MN SQ
      gi_wp2_with (refine wpListIn_load_rb (by rfl) (.tmp 8) rfl b8 rfl R8.out ?_)
      clear R8
      refine wpIn_rangeFunc_P rfl (by omega) (gf := 31) (pb := #[.agg (rc (.slice ao zs.length cap) W)]) (lb := #[]) rfl trivial (enters_of Tryd.func31 (by kernel_rfl) rfl) SS.out
        (fun i h => Nat.lt_of_lt_of_le (LS.out i h) LX.out) (Below.refl _ _) (fun _ => rfl)
        (fun pre O Y => WiI X c6 (c6 + 1) b10 G zs W V M MM pre O Y) (fun c pre O Y => WiX X c6 (c6 + 1) G zs W M MM c O Y) ?hI ?hIx ?hI2 ?hIx2 ?h0
        (fun x a' _ => a' = { tmps := #[.slice ao zs.length cap, .int .i64 (o : Int), .int .i64 (t : Int), undef, undef, undef, .pointer (some ⟨c6, 0, none⟩), .pointer (some ⟨c6 + 1, 0, none⟩), .pointer (some ⟨b8, 0, none⟩), .int .i64 0, .pointer (some ⟨b10, 0, none⟩), .int .i64 (x.1 : Int), .int .u64 (ct zs W x.1), .tuple #[.agg (rc (.slice ao zs.length cap) W), .int .i64 0], .slice ao zs.length cap, .int .i64 (o : Int), .tuple #[.agg (rc (.slice ao zs.length cap) W), .int .i64 0], .agg (rc (.slice ao zs.length cap) W), .int .i64 0, .int .i64 0, .bool false, undef, .tuple #[.agg (rc (.slice none 0 0) V), .int .i64 0], .int .i64 (t : Int), .tuple #[.agg (rc (.slice none 0 0) V), .int .i64 0], .agg (rc (.slice none 0 0) V), .int .i64 0, .int .i64 0, .bool false, undef, .agg (rc (.slice none 0 0) V), .agg (rc (.slice ao zs.length cap) W), .int .i64 (M : Int), .slice (some ⟨G, 0, none⟩) (rm M V) (rm M V), .pointer (some ⟨b10, 0, none⟩), .agg (rc (.slice ao zs.length cap) W), .func (.func 31) #[.agg (rc (.slice ao zs.length cap) W)] #[], .int .i64 (x.1 : Int), .int .u64 (ct zs W x.1), undef, undef, undef, undef, undef, undef, undef, undef, undef, undef], defers := [] }) (fun _ _ _ _ h => h) ?assign ?body ?done ?stop
      case hI => exact fun s O X1 Y h k => h.abd L6.out k
      case hIx => exact fun c s O X1 Y h k => h.abd L6.out k
      case hI2 => exact fun s O X1 o' h hl => h.put L6.out
      case hIx2 => exact fun c s O X1 o' h hl => h.put L6.out
      case h0 =>
        intro r
        have ka : Kp (fun _ => False) X ((X.alloc (.deferred (some []))).alloc (.loop r)) := ((Kp.refl _ _).alloc _).alloc _
        have q := WB.out
        refine ⟨ka.mono (fun _ _ x => x.elim), q.row.kp ka (fun x => x), fun i hi => by simp [idx] at hi, fun h => ?_, fun h => ?_, fun h => ?_, fun h => ?_⟩
        · have := LS.out _ h; have := q.lG; omega
        · have := LS.out _ h; have := q.l10; omega
        · have := LS.out _ h; have := q.l6; omega
        · have := LS.out _ h; have := q.l7; omega
      case assign =>
        intro l' pre O x Y Kk hll hsz hi hK
        gi_wp2
        exact hK _ _ (Kp.refl _ _) hi (by simp [xenc])
      case body =>
        rintro l' pre O x a' Y hll hsz n1 n2 hi rfl hlen hsp
        have HI := hid hi
        have R10 := hid (WB.out.r10.kp hi.kp (fun e => WB.out.nG.2.2.2 e.symm))
        have hxM := x.2.1
        have hxb := ct_b zs W x.1
        have h64 := H64.out x.1
        have SX := hid (fun (Z : World) (k : Kp (fun _ => False) Y Z) => SE.out G (rm M V) x.1 (rm M V) (wl zs W V (rm M V) (idx pre)) (ct zs W x.1) Z (wl_len _ _ _ _ _) hr (wl_byt _ _ _ _ _) (rm_fit hxM) ⟨hxb.1, h64⟩ (hi.row.kp k (fun x => x)))
        clear hi hsp
        by_cases hbig : MM < ct zs W x.1
        · have db : decide (MM < ct zs W x.1) = true := by simpa using hbig
          have BG : Hid (∃ i, i < M ∧ MM < ct zs W i) := ⟨x.1, hxM, hbig⟩
          have RY := hid (WB.out.rc.kp HI.out.kp (fun e => WB.out.nG.1 e.symm) (fun e => WB.out.nG.2.1 e.symm))
          clear hbig SX
          gi_wp2_with (refine wpListIn_load_rb (by rfl) (.tmp 10) rfl b10 rfl R10.out ?_)
          refine ⟨trivial, ((callsIn_wide.2 (MO.out _ _)).inRound l').mono ?_⟩
          rintro r Z ⟨rfl, k1⟩
          have RZ := hid (RY.out.kp k1 (fun x => x) (fun x => x))
          have f6 := RZ.out.s6.frozen 0
          have f7 := RZ.out.s7.frozen 0
          have q6 := RZ.out.s6.cell 0
          have q7 := RZ.out.s7.cell 0
          have K1 := hid k1
          clear k1
          gi_wp2_with fail
          have kz := rc_kp Z c6 (c6 + 1) (.slice none 0 0) (.int .i64 3)
          refine ⟨(K1.out.mono (fun _ _ x => x.elim)).trans kz (fun i h1 h2 => ?_), ⟨rfl, ((HI.out.kp.trans K1.out (fun _ _ x => x.elim)).mono (fun i _ e => .inl e)).trans kz (fun i _ e => .inr e), RZ.out.put (by omega) _ _, BG.out, HI.out.n6, HI.out.n7⟩⟩
          have hx := L6.out
          rcases h2 with rfl | rfl
          · exact ⟨HI.out.n6, by omega, by omega⟩
          · exact ⟨HI.out.n7, by omega, by omega⟩
        · have db : decide (MM < ct zs W x.1) = false := by simpa using hbig
          have FT : Hid (∀ i, i ∈ idx (pre ++ [x]) → ct zs W i ≤ MM) := (by
            intro i hi
            rw [idx_snoc, List.mem_append] at hi
            rcases hi with hi | hi
            · exact HI.out.fits i hi
            · have : i = x.1 := by simpa using hi
              subst this
              omega)
          clear hbig
          gi_wp2_with (refine wpListIn_load_rb (by rfl) (.tmp 10) rfl b10 rfl R10.out ?_)
          refine ⟨trivial, ((callsIn_wide.2 (MO.out _ _)).inRound l').mono ?_⟩
          rintro r Z ⟨rfl, k1⟩
          have K1 := hid k1
          have R11 := hid (R10.out.kp k1 (fun x => x))
          clear k1
          gi_wp2_with (refine wpListIn_load_rb (by rfl) (.tmp 10) rfl b10 rfl R11.out ?_)
          refine ⟨trivial, ((callsIn_wide.2 (SX.out _ K1.out)).inRound l').mono ?_⟩
          rintro r Z2 ⟨⟨vv, rfl⟩, row2, k2⟩
          have ROW2 := hid row2
          have K2 := hid (K1.out.mono (G := fun i => i = G) (fun _ _ x => x.elim) |>.trans k2 (fun _ _ x => x))
          clear row2 k2
          gi_wp2_with fail
          refine ⟨K2.out.mono (fun i h1 e => ?_), ⟨HI.out.kp.trans K2.out (fun _ _ x => x), by rw [idx_snoc, wl_snoc]; exact ROW2.out, FT.out, HI.out.nG, HI.out.n10, HI.out.n6, HI.out.n7⟩⟩
          have hx := L6.out
          subst e
          exact ⟨HI.out.nG, by omega, by omega⟩
      case done =>
        intro D xs O Y hD hS hi hd
        subst hD
        have HI := hid hi
        have RY := hid (WB.out.rc.kp hi.kp (fun e => WB.out.nG.1 e.symm) (fun e => WB.out.nG.2.1 e.symm))
        have R10 := WB.out.r10.kp hi.kp (fun e => WB.out.nG.2.2.2 e.symm)
        have c10 := R10.c0
        have f6 := RY.out.s6.frozen 0
        have f7 := RY.out.s7.frozen 0
        have q6 := RY.out.s6.cell 0
        have q7 := RY.out.s7.cell 0
        have HSS := hid hS
        clear hi hS R10
        gi_wp2_with fail
        have kz := rc_kp Y c6 (c6 + 1) (.slice (some ⟨G, 0, none⟩) (rm M V) (rm M V)) (.int .i64 0)
        have rz := RY.out.put (by omega) (.slice (some ⟨G, 0, none⟩) (rm M V) (rm M V)) (.int .i64 0)
        have kd := kp_putG ((Y.setCell ⟨c6, 0, none⟩ (.slice (some ⟨G, 0, none⟩) (rm M V) (rm M V))).setCell ⟨c6 + 1, 0, none⟩ (.int .i64 0)) X.heap.size (.deferred none)
        have hx := L6.out
        refine ⟨by simp, .inl ⟨_, _, rfl, run_takeDeferred ((kz.block _ (by have := (Array.getElem?_eq_some_iff.1 hd).1; exact this) (by omega)).trans hd), ?_⟩⟩
        refine ⟨_, (rz.kp kd (by omega) (by omega)).out _ rfl rfl, ⟨_, _, wl zs W V (rm M V) (nzs zs W M), _, (by rw [wl_len]), .inl ⟨fun i hi => ?_, rfl, rfl⟩, ?_, fun i off e => ?_, fun e => (by cases e), ?_⟩⟩
        · rw [← HMS.out]
          by_cases h0 : ct zs W i = 0
          · rw [h0, HMS.out]
            have : (0 : Int) < 2 ^ V := Int.pow_pos (by omega)
            omega
          · exact HI.out.fits i (by rw [HSS.out]; exact nzs_mem.2 ⟨hi, h0⟩)
        · have hrow := HI.out.row
          rw [HSS.out] at hrow
          exact ((hrow.kp kz (fun e => by have := WB.out.nG; omega)).kp kd (by omega)).src
        · cases e
          have h1 := WB.out.lG
          have h2 := HI.out.kp.size
          have h3 := kz.size
          have h4 := kd.size
          exact ⟨h1, by omega⟩
        · have h1 := WB.out
          exact ((h1.kp.trans HI.out.kp (fun i h2 h3 => by have := h1.lG; omega)).trans kz (fun i h2 h3 => by have := h1.l6; have := h1.l7; omega)).trans kd (fun i h2 h3 => by have := LX.out; omega)
      case stop =>
        intro D c pre O Y hD hsp hi hd
        subst hD
        obtain ⟨rfl, kx, rcx, big, n6, n7⟩ := hi
        have RY := hid rcx
        have KX := hid kx
        have BG := hid big
        clear rcx kx big
        gi_wp2_with fail
        have kd := kp_putG Y X.heap.size (.deferred none)
        have hx := L6.out
        refine ⟨by simp, .inl ⟨_, _, rfl, run_takeDeferred hd, ?_⟩⟩
        refine ⟨_, (RY.out.kp kd (by omega) (by omega)).out _ rfl rfl, ⟨none, 0, [], 3, rfl, .inr ⟨?_, rfl, rfl⟩, Src.nil _ _ _, fun i off e => (by cases e), fun _ => rfl, ?_⟩⟩
        · rw [← HMS.out]; exact BG.out
        · have h1 := WB.out
          exact (h1.kp.trans KX.out (fun i h2 h3 => by have := h1.lG; have := h1.l6; have := h1.l7; omega)).trans kd (fun i h2 h3 => by have := LX.out; omega)
    | _ => exact hh.elim
end Go.Proofs.YtjhgkcbpllgdiaaDoor
