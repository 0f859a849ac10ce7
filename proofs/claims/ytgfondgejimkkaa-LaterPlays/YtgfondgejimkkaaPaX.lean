/- later: the document's Put. -/
import Derived.Test.YtgfondgejimkkaaSe
namespace Go.Proofs.Ytgfondgejimkkaa
open Go.RowKit
set_option linter.unusedVariables false
set_option linter.unusedSimpArgs false
theorem take_sz {l : List Rn} {k : Nat} (h : k < l.length) : sz (l.take (k + 1)) = sz (l.take k) + (l.getD k zRn).n := by
  rw [take_snocr h, sz_append, sz_cons, sz_nil]
  omega
theorem Can.take {l : List Rn} (h : Can l) (k : Nat) : Can (l.take k) := h.sub (List.take_sublist _ _)
set_option maxRecDepth 100000 in
set_option maxHeartbeats 8000000 in
theorem rbytes_any (w : World) (ao : Option Addr) (n cap : Nat) (l : List Rn) (hl : l.length = n) (hn : n ≤ 100000) (hc : Can l) (hs : Srcr w ao l) :
    Calls Try.prog 17 #[.slice ao n cap] w fun e w' => e = .returned (.int .i64 (sz l)) ∧ Kp (fun _ => False) w w' := by
  have HL := hid hl
  have HC := hid hc
  have HS := hid hs
  clear hl hc hs
  go_enter Try.func17, Try.ntmps17
  go_wp2_with fail
  go_loopw [3, 4] (fun s i wr => ∃ (k : Nat), s = .int .i64 (sz (l.take k)) ∧ i = .int .i64 (k : Int) ∧ k ≤ n ∧ Hid (Kp (fun _ => False) w wr)) (fun _ i _ => n - (intOf i).toNat)
  case atStart => exact ⟨0, rfl, rfl, Nat.zero_le _, Kp.refl _ _⟩
  case round =>
    obtain ⟨k, rfl, rfl, hk, HK⟩ := hrel
    by_cases hlt : k < n
    · have hkl : k < l.length := by have := HL.out; omega
      obtain ⟨gb, off, rfl, hgb, x0, x1⟩ := (HS.out.kp HK.out (fun _ _ _ _ h => h)).at (i := k) hkl
      have HTS := hid (take_sz hkl)
      have hb := ap_sz (HC.out.take (k + 1)).ap
      rw [HTS.out] at hb
      have hw : IntKind.i64.wrap (sz (l.take k) + (l.getD k zRn).n) = sz (l.take k) + (l.getD k zRn).n := by rw [IntKind.wrap_i64]; omega
      clear hb
      generalize (l.getD k zRn).n = yn at *
      generalize (l.getD k zRn).a = ya at *
      go_wp2_with fail
      go_roundw
      case rel => exact ⟨k + 1, by rw [HTS.out], by go_num, hlt, HK⟩
      case measure => simp [intOf]; omega
    · obtain rfl : k = n := by omega
      have HT : Hid (l.take k = l) := List.take_of_length_le (by have := HL.out; omega)
      go_wp2_with fail
      go_ret
      exact ⟨congrArg (fun z => Ending.returned (.int .i64 (sz z))) HT.out, HK.out⟩
theorem take_lss {l : List Rn} {x : Rn} {k : Nat} (h : k < l.length) : lss (l.take (k + 1)) x = lss (l.take k) x ++ wo x (l.getD k zRn) := by
  rw [take_snocr h]
  unfold lss
  rw [List.flatMap_append]
  simp
theorem lss_len2 (l : List Rn) (x : Rn) : (lss l x).length ≤ 2 * l.length := by
  induction l with
  | nil => simp [lss]
  | cons y tl ih =>
    rw [lss_cons, List.length_append, List.length_cons]
    have h7 : (wo x y).length ≤ 2 := by unfold wo; rw [List.length_append]; split <;> split <;> simp
    omega
set_option maxRecDepth 100000 in
set_option maxHeartbeats 16000000 in
theorem rless_any (w : World) (ao : Option Addr) (n cap : Nat) (l : List Rn) (x : Rn) (hl : l.length = n) (hn : n ≤ 5000) (hx : Mayr x) (hm : ∀ y ∈ l, Mayr y) (hs : Srcr w ao l) :
    Calls Try.prog 55 #[.slice ao n cap, .agg #[.int .i64 x.a, .int .i64 x.n]] w fun e w' => ∃ v, e = .returned v ∧ Ownr w' w.heap.size v (lss l x) ∧ Kp (fun _ => False) w w' := by
  have HL := hid hl
  have HM := hid hm
  have HS := hid hs
  unfold Mayr Rn.e at hx
  obtain ⟨xa, xn⟩ := x
  dsimp only at hx ⊢
  obtain ⟨hx1, hx2, hx3⟩ := hx
  have hw0 : IntKind.i64.wrap (xa + xn) = xa + xn := by rw [IntKind.wrap_i64]; omega
  clear hl hm hs
  go_enter Try.func55, Try.ntmps55
  go_wp2_with fail
  have k0 : Kp (fun _ => False) w (w.alloc (.cells #[.int .i64 xa, .int .i64 xn] 38)) := (Kp.refl _ _).alloc _
  have S3 := hid (St.new 38 w #[.int .i64 xa, .int .i64 xn])
  have K0 := hid k0
  clear k0
  generalize w.alloc (.cells #[.int .i64 xa, .int .i64 xn] 38) = W0 at *
  obtain ⟨P, hP⟩ : ∃ P, P = w.heap.size := ⟨_, rfl⟩
  rw [← hP] at S3 ⊢
  have HP := hid hP
  clear hP
  go_loopw [5, 6] (fun v i wr => ∃ (k : Nat), i = .int .i64 (k : Int) ∧ k ≤ n ∧ Hid (Ownr wr P v (lss (l.take k) ⟨xa, xn⟩)) ∧ Hid (Kp (fun _ => False) w wr) ∧ Hid (St 38 wr P #[.int .i64 xa, .int .i64 xn]) ∧ Hid (∀ g, v.ownBlock = some g → P < g)) (fun _ i _ => n - (intOf i).toNat)
  case atStart => exact ⟨0, rfl, Nat.zero_le _, Ownr.nil _ _, K0, S3, fun g e => by simp [Value.ownBlock] at e⟩
  case round =>
    clear S3 K0
    obtain ⟨k, rfl, hk, HO, HK, HP3, HPG⟩ := hrel
    by_cases hlt : k < n
    · have hkl : k < l.length := by have := HL.out; omega
      obtain ⟨gb, off, rfl, hgb, x0, x1⟩ := (HS.out.kp HK.out (fun _ _ _ _ h => h)).at (i := k) hkl
      have HTS := hid (take_lss (x := ⟨xa, xn⟩) hkl)
      have hym := HM.out _ (gd_mem hkl)
      have hll : (lss (l.take k) ⟨xa, xn⟩).length ≤ 10000 := Nat.le_trans (lss_len2 _ _) (by rw [List.length_take]; omega)
      generalize l.getD k zRn = y at *
      obtain ⟨ya, yn⟩ := y
      unfold Mayr Rn.e at hym
      dsimp only at x0 x1 hym
      have z3 : wr.cell? ⟨P, 0, none⟩ = some (.int .i64 xa) := HP3.out.cell 0
      have z4 : wr.cell? ⟨P, 1, none⟩ = some (.int .i64 xn) := HP3.out.cell 1
      have hw1 : IntKind.i64.wrap (ya + yn) = ya + yn := by rw [IntKind.wrap_i64]; omega
      have hw2 : IntKind.i64.wrap (min (ya + yn) xa - ya) = min (ya + yn) xa - ya := by rw [IntKind.wrap_i64]; omega
      have hw3 : IntKind.i64.wrap (ya + yn - max ya (xa + xn)) = ya + yn - max ya (xa + xn) := by rw [IntKind.wrap_i64]; omega
      have HPL : Hid (P < wr.heap.size) := HP3.out.lt
      have HOB : Hid (∀ g, u5.ownBlock = some g → g < wr.heap.size) := fun g e => (HO.out.blk e).2.1
      have O0 := hid HO.out
      by_cases h1 : ya < min (ya + yn) xa
      · by_cases h2 : max ya (xa + xn) < ya + yn
        · go_wp2_with (first | (refine wpList_store_r rfl _ _ rfl _ rfl (e := zRn) (e' := ⟨ya, yn⟩) rfl (Rn.B.new wr zRn) ?_; intro U sU jU; have KU : Hid (Kp (fun _ => False) wr U) := ((Kp.refl (fun _ => False) wr).alloc _).trans jU (fun i h1 h2 => by omega); have y0 : U.cell? ⟨wr.heap.size, 0, none⟩ = some (.int .i64 ya) := sU.cell 0; have y1 : U.cell? ⟨wr.heap.size, 1, none⟩ = some (.int .i64 yn) := sU.cell 1; have p0 : U.cell? ⟨P, 0, none⟩ = some (.int .i64 xa) := (HP3.out.kp KU.out (fun h => h)).cell 0; have p1 : U.cell? ⟨P, 1, none⟩ = some (.int .i64 xn) := (HP3.out.kp KU.out (fun h => h)).cell 1; have SU := hid sU; have PU := hid (HP3.out.kp KU.out (fun h => h)); clear sU jU x0 x1 z3 z4) | (at_builtin; refine wpList_append_rr rfl _ _ rfl P u5 (lss (l.take k) ⟨xa, xn⟩) rfl ((O0.out.kp KU.out (fun _ _ h => h)).kp ((Kp.refl (fun _ => False) U).alloc _) (fun _ _ h => h)) (some ⟨U.heap.size, 0, none⟩) 1 1 [⟨ya, min (ya + yn) xa - ya⟩] rfl rfl (fun e => by cases e) (srcr_new1 U ⟨ya, min (ya + yn) xa - ya⟩) (by (try simp only [List.length_append, List.length_singleton]); omega) (by have h9 : P < wr.heap.size := HPL.out; have h8 := KU.out.size; rw [World.size_alloc]; omega) ?_; intro va wa oa ka ba; have Oa := hid oa; have Ka : Hid (Kp (fun i => u5.ownBlock = some i) U wa) := ((Kp.refl _ _).alloc _).trans ka (fun _ _ h => h); have Ba := hid ba; clear oa ka ba O0; have Na : Hid (∀ g, u5.ownBlock = some g → g ≠ wr.heap.size ∧ g ≠ P) := (fun g e => (by have h1 := HOB.out g e; have h2 := HPG.out g e; omega)); have Sa := hid (SU.out.kp Ka.out (fun e => (Na.out _ e).1 rfl)); have Qa := hid (PU.out.kp Ka.out (fun e => (Na.out _ e).2 rfl)); have q0 : wa.cell? ⟨wr.heap.size, 0, none⟩ = some (.int .i64 ya) := Sa.out.cell 0; have q1 : wa.cell? ⟨wr.heap.size, 1, none⟩ = some (.int .i64 yn) := Sa.out.cell 1; have r0 : wa.cell? ⟨P, 0, none⟩ = some (.int .i64 xa) := Qa.out.cell 0; have r1 : wa.cell? ⟨P, 1, none⟩ = some (.int .i64 xn) := Qa.out.cell 1; clear y0 y1 p0 p1) | (at_builtin; refine wpList_append_rr rfl _ _ rfl P va (lss (l.take k) ⟨xa, xn⟩ ++ [⟨ya, min (ya + yn) xa - ya⟩]) rfl (Oa.out.kp ((Kp.refl (fun _ => False) wa).alloc _) (fun _ _ h => h)) (some ⟨wa.heap.size, 0, none⟩) 1 1 [⟨max ya (xa + xn), ya + yn - max ya (xa + xn)⟩] rfl rfl (fun e => by cases e) (srcr_new1 wa ⟨max ya (xa + xn), ya + yn - max ya (xa + xn)⟩) (by (try simp only [List.length_append, List.length_singleton]); omega) (by have h9 : P < wr.heap.size := HPL.out; have h8 := Nat.le_trans KU.out.size Ka.out.size; rw [World.size_alloc]; omega) ?_; intro vb wb ob kb bb; have Ob := hid ob; have Kb : Hid (Kp (fun i => va.ownBlock = some i) wa wb) := ((Kp.refl _ _).alloc _).trans kb (fun _ _ h => h); have Bb := hid bb; clear ob kb bb Oa))
          go_roundw
          case rel => exact ⟨k + 1, by go_num, hlt, by rw [HTS.out]; rw [show wo ⟨xa, xn⟩ ⟨ya, yn⟩ = [⟨ya, min (ya + yn) xa - ya⟩] ++ [⟨max ya (xa + xn), ya + yn - max ya (xa + xn)⟩] by unfold wo Rn.e; dsimp only; rw [if_pos h1, if_pos h2], ← List.append_assoc]; exact Ob.out, (((HK.out.trans KU.out (fun _ _ h => h)).trans Ka.out (fun i hi e => by have := HPG.out i e; have := HP.out; omega)).trans Kb.out (fun i hi e => by have := (fun g e => (Ba.out.elim (fun e2 => HPG.out g (e2 ▸ e)) (fun e2 => by rw [e2] at e; have h9 : P < wr.heap.size := HPL.out; have h8 := KU.out.size; simp at e; omega))) i e; have := HP.out; omega)), (Qa.out.kp Kb.out (fun e => by have := (fun g e => (Ba.out.elim (fun e2 => HPG.out g (e2 ▸ e)) (fun e2 => by rw [e2] at e; have h9 : P < wr.heap.size := HPL.out; have h8 := KU.out.size; simp at e; omega))) P e; omega)), (fun g e => (Bb.out.elim (fun e2 => (fun g e => (Ba.out.elim (fun e2 => HPG.out g (e2 ▸ e)) (fun e2 => by rw [e2] at e; have h9 : P < wr.heap.size := HPL.out; have h8 := KU.out.size; simp at e; omega))) g (e2 ▸ e)) (fun e2 => by rw [e2] at e; have h9 : P < wr.heap.size := HPL.out; have h8 := Nat.le_trans KU.out.size Ka.out.size; simp at e; omega)))⟩
          case measure => simp [intOf]; omega
        · go_wp2_with (first | (refine wpList_store_r rfl _ _ rfl _ rfl (e := zRn) (e' := ⟨ya, yn⟩) rfl (Rn.B.new wr zRn) ?_; intro U sU jU; have KU : Hid (Kp (fun _ => False) wr U) := ((Kp.refl (fun _ => False) wr).alloc _).trans jU (fun i h1 h2 => by omega); have y0 : U.cell? ⟨wr.heap.size, 0, none⟩ = some (.int .i64 ya) := sU.cell 0; have y1 : U.cell? ⟨wr.heap.size, 1, none⟩ = some (.int .i64 yn) := sU.cell 1; have p0 : U.cell? ⟨P, 0, none⟩ = some (.int .i64 xa) := (HP3.out.kp KU.out (fun h => h)).cell 0; have p1 : U.cell? ⟨P, 1, none⟩ = some (.int .i64 xn) := (HP3.out.kp KU.out (fun h => h)).cell 1; have SU := hid sU; have PU := hid (HP3.out.kp KU.out (fun h => h)); clear sU jU x0 x1 z3 z4) | (at_builtin; refine wpList_append_rr rfl _ _ rfl P u5 (lss (l.take k) ⟨xa, xn⟩) rfl ((O0.out.kp KU.out (fun _ _ h => h)).kp ((Kp.refl (fun _ => False) U).alloc _) (fun _ _ h => h)) (some ⟨U.heap.size, 0, none⟩) 1 1 [⟨ya, min (ya + yn) xa - ya⟩] rfl rfl (fun e => by cases e) (srcr_new1 U ⟨ya, min (ya + yn) xa - ya⟩) (by (try simp only [List.length_append, List.length_singleton]); omega) (by have h9 : P < wr.heap.size := HPL.out; have h8 := KU.out.size; rw [World.size_alloc]; omega) ?_; intro va wa oa ka ba; have Oa := hid oa; have Ka : Hid (Kp (fun i => u5.ownBlock = some i) U wa) := ((Kp.refl _ _).alloc _).trans ka (fun _ _ h => h); have Ba := hid ba; clear oa ka ba O0; have Na : Hid (∀ g, u5.ownBlock = some g → g ≠ wr.heap.size ∧ g ≠ P) := (fun g e => (by have h1 := HOB.out g e; have h2 := HPG.out g e; omega)); have Sa := hid (SU.out.kp Ka.out (fun e => (Na.out _ e).1 rfl)); have Qa := hid (PU.out.kp Ka.out (fun e => (Na.out _ e).2 rfl)); have q0 : wa.cell? ⟨wr.heap.size, 0, none⟩ = some (.int .i64 ya) := Sa.out.cell 0; have q1 : wa.cell? ⟨wr.heap.size, 1, none⟩ = some (.int .i64 yn) := Sa.out.cell 1; have r0 : wa.cell? ⟨P, 0, none⟩ = some (.int .i64 xa) := Qa.out.cell 0; have r1 : wa.cell? ⟨P, 1, none⟩ = some (.int .i64 xn) := Qa.out.cell 1; clear y0 y1 p0 p1))
          go_roundw
          case rel => exact ⟨k + 1, by go_num, hlt, by rw [HTS.out]; rw [show wo ⟨xa, xn⟩ ⟨ya, yn⟩ = [⟨ya, min (ya + yn) xa - ya⟩] by unfold wo Rn.e; dsimp only; rw [if_pos h1, if_neg h2, List.append_nil]]; exact Oa.out, ((HK.out.trans KU.out (fun _ _ h => h)).trans Ka.out (fun i hi e => by have := HPG.out i e; have := HP.out; omega)), Qa, (fun g e => (Ba.out.elim (fun e2 => HPG.out g (e2 ▸ e)) (fun e2 => by rw [e2] at e; have h9 : P < wr.heap.size := HPL.out; have h8 := KU.out.size; simp at e; omega)))⟩
          case measure => simp [intOf]; omega
      · by_cases h2 : max ya (xa + xn) < ya + yn
        · go_wp2_with (first | (refine wpList_store_r rfl _ _ rfl _ rfl (e := zRn) (e' := ⟨ya, yn⟩) rfl (Rn.B.new wr zRn) ?_; intro U sU jU; have KU : Hid (Kp (fun _ => False) wr U) := ((Kp.refl (fun _ => False) wr).alloc _).trans jU (fun i h1 h2 => by omega); have y0 : U.cell? ⟨wr.heap.size, 0, none⟩ = some (.int .i64 ya) := sU.cell 0; have y1 : U.cell? ⟨wr.heap.size, 1, none⟩ = some (.int .i64 yn) := sU.cell 1; have p0 : U.cell? ⟨P, 0, none⟩ = some (.int .i64 xa) := (HP3.out.kp KU.out (fun h => h)).cell 0; have p1 : U.cell? ⟨P, 1, none⟩ = some (.int .i64 xn) := (HP3.out.kp KU.out (fun h => h)).cell 1; have SU := hid sU; have PU := hid (HP3.out.kp KU.out (fun h => h)); clear sU jU x0 x1 z3 z4) | (at_builtin; refine wpList_append_rr rfl _ _ rfl P u5 (lss (l.take k) ⟨xa, xn⟩) rfl ((O0.out.kp KU.out (fun _ _ h => h)).kp ((Kp.refl (fun _ => False) U).alloc _) (fun _ _ h => h)) (some ⟨U.heap.size, 0, none⟩) 1 1 [⟨max ya (xa + xn), ya + yn - max ya (xa + xn)⟩] rfl rfl (fun e => by cases e) (srcr_new1 U ⟨max ya (xa + xn), ya + yn - max ya (xa + xn)⟩) (by (try simp only [List.length_append, List.length_singleton]); omega) (by have h9 : P < wr.heap.size := HPL.out; have h8 := KU.out.size; rw [World.size_alloc]; omega) ?_; intro vb wb ob kb bb; have Ob := hid ob; have Kb : Hid (Kp (fun i => u5.ownBlock = some i) U wb) := ((Kp.refl _ _).alloc _).trans kb (fun _ _ h => h); have Bb := hid bb; clear ob kb bb O0))
          go_roundw
          case rel => exact ⟨k + 1, by go_num, hlt, by rw [HTS.out]; rw [show wo ⟨xa, xn⟩ ⟨ya, yn⟩ = [⟨max ya (xa + xn), ya + yn - max ya (xa + xn)⟩] by unfold wo Rn.e; dsimp only; rw [if_neg h1, if_pos h2, List.nil_append]]; exact Ob.out, ((HK.out.trans KU.out (fun _ _ h => h)).trans Kb.out (fun i hi e => by have := HPG.out i e; have := HP.out; omega)), (PU.out.kp Kb.out (fun e => by have := HPG.out P e; omega)), (fun g e => (Bb.out.elim (fun e2 => HPG.out g (e2 ▸ e)) (fun e2 => by rw [e2] at e; have h9 : P < wr.heap.size := HPL.out; have h8 := KU.out.size; simp at e; omega)))⟩
          case measure => simp [intOf]; omega
        · go_wp2_with (first | (refine wpList_store_r rfl _ _ rfl _ rfl (e := zRn) (e' := ⟨ya, yn⟩) rfl (Rn.B.new wr zRn) ?_; intro U sU jU; have KU : Hid (Kp (fun _ => False) wr U) := ((Kp.refl (fun _ => False) wr).alloc _).trans jU (fun i h1 h2 => by omega); have y0 : U.cell? ⟨wr.heap.size, 0, none⟩ = some (.int .i64 ya) := sU.cell 0; have y1 : U.cell? ⟨wr.heap.size, 1, none⟩ = some (.int .i64 yn) := sU.cell 1; have p0 : U.cell? ⟨P, 0, none⟩ = some (.int .i64 xa) := (HP3.out.kp KU.out (fun h => h)).cell 0; have p1 : U.cell? ⟨P, 1, none⟩ = some (.int .i64 xn) := (HP3.out.kp KU.out (fun h => h)).cell 1; have SU := hid sU; have PU := hid (HP3.out.kp KU.out (fun h => h)); clear sU jU x0 x1 z3 z4))
          go_roundw
          case rel => exact ⟨k + 1, by go_num, hlt, by rw [HTS.out]; rw [show wo ⟨xa, xn⟩ ⟨ya, yn⟩ = [] by unfold wo Rn.e; dsimp only; rw [if_neg h1, if_neg h2, List.nil_append], List.append_nil]; exact O0.out.kp KU.out (fun _ _ h => h), (HK.out.trans KU.out (fun _ _ h => h)), PU, HPG.out⟩
          case measure => simp [intOf]; omega
    · obtain rfl : k = n := by omega
      have HT : Hid (l.take k = l) := List.take_of_length_le (by have := HL.out; omega)
      go_wp2_with fail
      go_ret
      refine ⟨_, rfl, ?_, HK.out⟩
      have := HO.out.base (b' := w.heap.size) (by have h9 : P = w.heap.size := HP.out; omega)
      rw [HT.out] at this
      exact this
end Go.Proofs.Ytgfondgejimkkaa

namespace Go.Proofs.Ytgfondgejimkkaa
open Go.RowKit
set_option linter.unusedVariables false
set_option linter.unusedSimpArgs false
/-- What a slice of runs may lie in. -/
def Tb (w : World) (ao : Option Addr) : Prop := ∀ b off, ao = some ⟨b, off, none⟩ → ∃ cur, St 38 w b cur
theorem Tb.kp {F : Nat → Prop} {w w' : World} {ao : Option Addr} (h : Tb w ao) (k : Kp F w w') (hf : ∀ b cur, St 38 w b cur → ¬ F b) : Tb w' ao := fun b off e => by
  obtain ⟨cur, hc⟩ := h b off e
  exact ⟨cur, hc.kp k (hf b cur hc)⟩
/-- The document's Later at q holds the runs l. -/
structure RL (q : Nat) (w : World) (l : List Rn) : Prop where
  mem : ∃ ao cap, St 27 w q #[.slice ao l.length cap] ∧ Srcr w ao l ∧ Tb w ao ∧ (ao = none → cap = 0)
  can : Can l
  len : l.length ≤ 4096
theorem RL.kp {q : Nat} {F : Nat → Prop} {w w' : World} {l : List Rn} (h : RL q w l) (k : Kp F w w') (hf : ∀ i, ¬ F i) : RL q w' l := by
  obtain ⟨ao, cap, h1, h2, h3, h4⟩ := h.mem
  exact ⟨⟨ao, cap, h1.kp k (hf q), h2.kp k (fun b off _ _ => hf b), h3.kp k (fun b _ _ => hf b), h4⟩, h.can, h.len⟩
theorem RL.kpt {q : Nat} {F : Nat → Prop} {w w' : World} {l : List Rn} (h : RL q w l) (k : Kp F w w') (hq : ¬ F q) (hf : ∀ b cur, St 38 w b cur → ¬ F b) : RL q w' l := by
  obtain ⟨ao, cap, h1, h2, h3, h4⟩ := h.mem
  exact ⟨⟨ao, cap, h1.kp k hq, h2.kp k (fun b off e _ => by obtain ⟨cur, hc⟩ := h3 b off e; exact hf b cur hc), h3.kp k hf, h4⟩, h.can, h.len⟩
theorem RL.lt {q : Nat} {w : World} {l : List Rn} (h : RL q w l) : q < w.heap.size := by
  obtain ⟨ao, cap, h1, _⟩ := h.mem
  exact h1.lt
theorem take_ovl {l : List Rn} {x : Rn} {k : Nat} (h : k < l.length) : ovl (l.take (k + 1)) x = ovl (l.take k) x + ov x (l.getD k zRn) := by
  rw [take_snocr h, ovl_append, ovl_cons]
  show _ = _ + _
  simp [ovl]
set_option maxRecDepth 100000 in
set_option maxHeartbeats 16000000 in
theorem rover_any (w : World) (q : Nat) (l : List Rn) (x : Rn) (hx : Mayr x) (h : RL q w l) :
    Calls Try.prog 39 #[.pointer (some ⟨q, 0, none⟩), .agg #[.int .i64 x.a, .int .i64 x.n]] w fun e w' => e = .returned (.int .i64 (ovl l x)) ∧ Kp (fun _ => False) w w' := by
  obtain ⟨ao, cap, hq, hs, hb, hz⟩ := h.mem
  have HQ := hid hq
  have HS := hid hs
  have HC := hid h.can
  have hl4 := h.len
  have HX := hid hx
  obtain ⟨n, hn⟩ : ∃ n, l.length = n := ⟨_, rfl⟩
  rw [hn] at HQ hl4
  have HL := hid hn
  clear hn hq hs h hb hz
  obtain ⟨xa, xn⟩ := x
  unfold Mayr Rn.e at hx
  dsimp only at hx ⊢
  obtain ⟨hx1, hx2, hx3⟩ := hx
  have hw0 : IntKind.i64.wrap (xa + xn) = xa + xn := by rw [IntKind.wrap_i64]; omega
  go_enter Try.func39, Try.ntmps39
  go_wp2_with fail
  have K0 : Hid (Kp (fun _ => False) w (w.alloc (.cells #[.int .i64 xa, .int .i64 xn] 38))) := (Kp.refl _ _).alloc _
  have S3 := hid (St.new 38 w #[.int .i64 xa, .int .i64 xn])
  generalize w.alloc (.cells #[.int .i64 xa, .int .i64 xn] 38) = W0 at *
  generalize w.heap.size = P at *
  go_loopw [5, 6] (fun s i wr => ∃ (k : Nat), s = .int .i64 (ovl (l.take k) ⟨xa, xn⟩) ∧ i = .int .i64 (k : Int) ∧ k ≤ n ∧ Hid (Kp (fun _ => False) w wr) ∧ Hid (St 38 wr P #[.int .i64 xa, .int .i64 xn])) (fun _ i _ => n - (intOf i).toNat)
  case atStart => exact ⟨0, rfl, rfl, Nat.zero_le _, K0, S3⟩
  case round =>
    clear S3 K0
    obtain ⟨k, rfl, rfl, hk, HK, HP3⟩ := hrel
    have z3 : wr.cell? ⟨P, 0, none⟩ = some (.int .i64 xa) := HP3.out.cell 0
    have z4 : wr.cell? ⟨P, 1, none⟩ = some (.int .i64 xn) := HP3.out.cell 1
    have zq : wr.cell? ⟨q, 0, none⟩ = some (.slice ao n cap) := (HQ.out.kp HK.out (fun h => h)).cell 0
    by_cases hlt : k < n
    · have hkl : k < l.length := by have := HL.out; omega
      obtain ⟨gb, off, rfl, hgb, x0, x1⟩ := (HS.out.kp HK.out (fun _ _ _ _ h => h)).at (i := k) hkl
      have HTS := hid (take_ovl (x := ⟨xa, xn⟩) hkl)
      have hb := ovl_bound (x := ⟨xa, xn⟩) HX.out (HC.out.take (k + 1)).ap
      have hb0 := ovl_bound (x := ⟨xa, xn⟩) HX.out (HC.out.take k).ap
      have hym := HC.out.1 _ (gd_mem hkl)
      rw [HTS.out] at hb
      generalize l.getD k zRn = y at *
      obtain ⟨ya, yn⟩ := y
      unfold Mayr Rn.e at hym
      have hov : ov ⟨xa, xn⟩ ⟨ya, yn⟩ = max 0 (min (xa + xn) (ya + yn) - max xa ya) := rfl
      rw [hov] at hb HTS
      dsimp only at x0 x1 hym hb hb0
      obtain ⟨hy1, hy2, hy3⟩ := hym
      generalize ovl (l.take k) ⟨xa, xn⟩ = s0 at *
      have hw1 : IntKind.i64.wrap (ya + yn) = ya + yn := by rw [IntKind.wrap_i64]; omega
      have hw2 : IntKind.i64.wrap (min (xa + xn) (ya + yn) - max xa ya) = min (xa + xn) (ya + yn) - max xa ya := by rw [IntKind.wrap_i64]; omega
      have hw3 : IntKind.i64.wrap (s0 + max 0 (min (xa + xn) (ya + yn) - max xa ya)) = s0 + max 0 (min (xa + xn) (ya + yn) - max xa ya) := by rw [IntKind.wrap_i64]; omega
      go_wp2_with fail
      go_quiet (fail)
      go_wp2_with fail
      go_roundw
      case rel => exact ⟨k + 1, by rw [HTS.out], by go_num, hlt, HK.out.trans (drewN_kp _ _ _) (fun _ _ h => h), HP3.out.kp (drewN_kp (fun _ => False) _ _) (fun h => h)⟩
      case measure => simp [intOf]; omega
    · obtain rfl : k = n := by omega
      have HT : Hid (l.take k = l) := List.take_of_length_le (by have := HL.out; omega)
      go_wp2_with fail
      go_ret
      exact ⟨congrArg (fun z => Ending.returned (.int .i64 (ovl z ⟨xa, xn⟩))) HT.out, HK.out⟩
end Go.Proofs.Ytgfondgejimkkaa

namespace Go.Proofs.Ytgfondgejimkkaa
open Go.RowKit
set_option linter.unusedVariables false
set_option linter.unusedSimpArgs false
theorem Ownr.ty {w : World} {base : Nat} {ao : Option Addr} {n cap : Nat} {l : List Rn} (h : Ownr w base (.slice ao n cap) l) : ∀ b off, ao = some ⟨b, off, none⟩ → base ≤ b ∧ ∃ cur, St 38 w b cur := by
  rintro b off rfl
  have h1 := h.blk (g := b) rfl
  exact ⟨h1.1, h1.2.2⟩
theorem RL.put {q : Nat} {w0 w : World} {l M : List Rn} {base cap : Nat} {ao : Option Addr} (h : RL q w l) (hq : q < base) (o : Ownr w base (.slice ao M.length cap) M) (hc : Can M) (hl : M.length ≤ 4096) : RL q (w.setCell ⟨q, 0, none⟩ (.slice ao M.length cap)) M := by
  obtain ⟨a0, c0, h1, h2, h3, h4⟩ := h.mem
  obtain ⟨ao', cap', e, s, hc1, hc2, hz⟩ := o.src
  cases e
  have k := kp_setCell w q 0 (.slice ao M.length cap) (fun i => i = q) rfl
  have hb : Tb w ao := fun b off e => (Ownr.ty o b off e).2
  have hn : ∀ b cur, St 38 w b cur → ¬ b = q := fun b cur s e => by subst e; exact apart_types s h1 (by decide)
  exact ⟨⟨ao, cap, h1.set 0 _, s.kp k (fun b off e _ => by obtain ⟨cur, hc⟩ := hb b off e; exact hn b cur hc), hb.kp k hn, hz⟩, hc, hl⟩
set_option maxRecDepth 100000 in
set_option maxHeartbeats 16000000 in
theorem rcut_any (w : World) (q : Nat) (l : List Rn) (x : Rn) (hx : x.i6) (h : RL q w l) :
    Calls Try.prog 35 #[.pointer (some ⟨q, 0, none⟩), .agg #[.int .i64 x.a, .int .i64 x.n]] w fun e w' =>
      (¬ Mayr x ∧ e = .returned (.tuple #[.int .i64 0, .int .i64 2]) ∧ Kp (fun _ => False) w w') ∨
      (Mayr x ∧ 4096 < (lss l x).length ∧ e = .returned (.tuple #[.int .i64 0, .int .i64 6]) ∧ Kp (fun _ => False) w w') ∨
      (Mayr x ∧ (lss l x).length ≤ 4096 ∧ e = .returned (.tuple #[.int .i64 (sz l - sz (lss l x)), .int .i64 0]) ∧ RL q w' (lss l x) ∧ Kp (fun i => i = q) w w') := by
  have HR := hid h
  have HMY : Hid (∀ U, Calls Try.prog 21 #[.agg #[.int .i64 x.a, .int .i64 x.n]] U fun e w' => e = .returned (.bool (mayb x)) ∧ Kp (fun _ => False) U w') := fun U => rmay_any x U hx
  obtain ⟨ao, cap, hq, hs, hb, hz⟩ := h.mem
  have HQ := hid hq
  have HS := hid hs
  have hl4 := h.len
  have HC := hid h.can
  have HSZ := hid (ap_sz h.can.ap)
  clear hq hs h hb hz hx
  have HBY : Hid (∀ U, Kp (fun _ => False) w U → Calls Try.prog 17 #[.slice ao l.length cap] U fun e w' => e = .returned (.int .i64 (sz l)) ∧ Kp (fun _ => False) U w') := fun U k => rbytes_any U ao l.length cap l rfl (by omega) HC.out (HS.out.kp k (fun _ _ _ _ h => h))
  by_cases hm : mayb x = true
  · have hM := (mayb_iff x).1 hm
    have HM := hid hM
    have HCL := hid (lss_can hM HC.out)
    have HLZ := hid (ap_sz HCL.out.ap)
    have HLE := hid (lss_len2 l x)
    have HLS : Hid (∀ U, Kp (fun _ => False) w U → Calls Try.prog 55 #[.slice ao l.length cap, .agg #[.int .i64 x.a, .int .i64 x.n]] U fun e w' => ∃ v, e = .returned v ∧ Ownr w' U.heap.size v (lss l x) ∧ Kp (fun _ => False) U w') := fun U k => rless_any U ao l.length cap l x rfl (by omega) hM HC.out.1 (HS.out.kp k (fun _ _ _ _ h => h))
    rw [hm] at HMY
    clear hm hM
    obtain ⟨M, hMl⟩ : ∃ M, M = lss l x := ⟨_, rfl⟩
    rw [← hMl] at HCL HLZ HLS HLE ⊢
    have HBM : Hid (∀ (U : World) (b : Nat) (a2 : Option Addr) (c2 : Nat), Ownr U b (.slice a2 M.length c2) M → Calls Try.prog 17 #[.slice a2 M.length c2] U fun e w' => e = .returned (.int .i64 (sz M)) ∧ Kp (fun _ => False) U w') := fun U b a2 c2 o => by
      obtain ⟨a3, c3, e, s, _⟩ := o.src
      cases e
      exact rbytes_any U a2 M.length c2 M rfl (by have := HLE.out; omega) HCL.out s
    clear hMl
    have hwz : IntKind.i64.wrap (sz l - sz M) = sz l - sz M := by have := HSZ.out; have := HLZ.out; rw [IntKind.wrap_i64]; omega
    have hm8 : M.length ≤ 8192 := by have := HLE.out; omega
    generalize hxa : x.a = xa at *
    generalize hxn : x.n = xn at *
    obtain ⟨n, hn⟩ : ∃ n, n = l.length := ⟨_, rfl⟩
    obtain ⟨m, hmm⟩ : ∃ m, m = M.length := ⟨_, rfl⟩
    obtain ⟨s1, hs1⟩ : ∃ s, s = sz l := ⟨_, rfl⟩
    obtain ⟨s2, hs2⟩ : ∃ s, s = sz M := ⟨_, rfl⟩
    rw [← hs1, ← hs2] at hwz
    rw [← hs1] at HBY
    rw [← hs2] at HBM
    rw [← hs1, ← hs2]
    rw [← hmm] at HBM hm8 ⊢
    rw [← hn] at HBY HLS HQ hl4
    have HMM := hid hmm
    clear hs1 hs2 hmm hn hxa hxn
    go_enter Try.func35, Try.ntmps35
    go_wp2_with fail
    have K0 : Hid (Kp (fun _ => False) w (w.alloc (.cells #[.int .i64 xa, .int .i64 xn] 38))) := (Kp.refl _ _).alloc _
    have S3 := hid (St.new 38 w #[.int .i64 xa, .int .i64 xn])
    obtain ⟨W0, hW0⟩ : ∃ W, W = w.alloc (.cells #[.int .i64 xa, .int .i64 xn] 38) := ⟨_, rfl⟩
    rw [← hW0] at K0 S3 ⊢
    clear hW0
    obtain ⟨P, hP⟩ : ∃ P, P = w.heap.size := ⟨_, rfl⟩
    rw [← hP] at S3 ⊢
    have HP := hid hP
    clear hP
    refine (HMY.out W0).mono ?_
    rintro e w1 ⟨rfl, k1⟩
    have K1 := hid (K0.out.trans k1 (fun _ _ h => h))
    have S1 := hid (S3.out.kp k1 (fun h => h))
    clear k1 K0 S3
    go_wp2_with fail
    have HSC : Hid (∀ U, Kp (fun _ => False) w1 U → U.cell? ⟨q, 0, none⟩ = some (.slice ao n cap) ∧ U.cell? ⟨P, 0, none⟩ = some (.int .i64 xa) ∧ U.cell? ⟨P, 1, none⟩ = some (.int .i64 xn)) := fun U k => ⟨(HQ.out.kp (K1.out.trans k (fun _ _ h => h)) (fun h => h)).cell 0, (S1.out.kp k (fun h => h)).cell 0, (S1.out.kp k (fun h => h)).cell 1⟩
    have cc0 := HSC.out w1 (Kp.refl _ _)
    have HL3 := hid (HLS.out w1.drew (K1.out.trans (Kp.refl (fun _ => False) w1).drew (fun _ _ h => h)))
    go_region_held3 (fun U : World => U.cell? ⟨q, 0, none⟩ = some (.slice ao n cap) ∧ U.cell? ⟨P, 0, none⟩ = some (.int .i64 xa) ∧ U.cell? ⟨P, 1, none⟩ = some (.int .i64 xn)) (first | exact cc0 | exact cc2) (first | (go_at_call 55; refine HL3.out.mono ?_; rintro e w3 ⟨v3, rfl, o3, k3⟩; have KK := (Kp.refl (fun _ => False) w1).drew.trans k3 (fun _ _ h => h); have cc2 := HSC.out w3 KK; obtain ⟨a3, c3, rfl, s3, hc3, hm3, hz3⟩ := o3.src; have K3 := hid (K1.out.trans KK (fun _ _ h => h)); have O3 := hid o3; clear k3 o3 KK s3 hc3 hm3 hz3; rw [← HMM.out] at O3 ⊢))
    have HO3 : Hid (Ownr w3 P (.slice a3 m c3) M) := O3.out.base (by have := HP.out; have := K1.out.size; show P ≤ w1.drew.heap.size; have e : w1.drew.heap.size = w1.heap.size := rfl; omega)
    clear O3 HL3 HLS HSC S1 cc0 HMY
    by_cases hgt : 4096 < m
    · have hg2 : (4096 : Int) < (m : Int) := by omega
      clear cc2
      go_wp2_with fail
      go_ret2
      exact Or.inr (Or.inl ⟨HM.out, hgt, rfl, K3.out⟩)
    · have hg2 : ¬ (4096 : Int) < (m : Int) := by omega
      have zq : w3.cell? ⟨q, 0, none⟩ = some (.slice ao n cap) := cc2.1
      clear cc2
      go_wp2_with (first
        | (go_at_call_of 17 (Value.slice ao n cap); refine (HBY.out w3 K3.out).mono ?_; rintro e w4 ⟨rfl, k4⟩; have K4 := hid (K3.out.trans k4 (fun _ _ h => h)); have O4 := hid (HO3.out.kp k4 (fun _ _ h => h)); have zq4 : w4.cell? ⟨q, 0, none⟩ = some (.slice ao n cap) := (HQ.out.kp K4.out (fun h => h)).cell 0; clear k4 zq)
        | (go_at_call 17; refine (HBM.out w4 P a3 c3 O4.out).mono ?_; rintro e w5 ⟨rfl, k5⟩; have K5 := hid (K4.out.trans k5 (fun _ _ h => h)); have O5 := hid (O4.out.kp k5 (fun _ _ h => h)); have zq5 : w5.cell? ⟨q, 0, none⟩ = some (.slice ao n cap) := (HQ.out.kp K5.out (fun h => h)).cell 0; have fq5 : w5.frozen? ⟨q, 0, none⟩ = false := (HQ.out.kp K5.out (fun h => h)).frozen 0; clear k5 zq4))
      go_ret2
      have hR := HR.out.kp K5.out (fun _ h => h)
      have hql : q < P := by have h9 : P = w.heap.size := HP.out; have := HR.out.lt; omega
      have o5 := O5.out
      rw [HMM.out] at o5 ⊢
      exact Or.inr (Or.inr ⟨HM.out, by have := HMM.out; omega, rfl, RL.put (w0 := w) hR hql o5 HCL.out (by have := HMM.out; omega), (K5.out.mono (fun i _ h => h.elim)).trans (kp_setCell w5 q 0 _ (fun i => i = q) rfl) (fun _ _ h => h)⟩)
  · have hmf : mayb x = false := by simpa using hm
    rw [hmf] at HMY
    have HM := hid (mayb_false hmf)
    clear hm hmf HBY
    generalize x.a = xa at *
    generalize x.n = xn at *
    go_enter Try.func35, Try.ntmps35
    go_wp2_with fail
    have K0 : Hid (Kp (fun _ => False) w (w.alloc (.cells #[.int .i64 xa, .int .i64 xn] 38))) := (Kp.refl _ _).alloc _
    refine (HMY.out _).mono ?_
    rintro e w1 ⟨rfl, k1⟩
    have K1 := hid (K0.out.trans k1 (fun _ _ h => h))
    clear k1
    go_wp2_with fail
    go_ret2
    exact Or.inl ⟨HM.out, rfl, K1.out⟩
end Go.Proofs.Ytgfondgejimkkaa

namespace Go.Proofs.Ytgfondgejimkkaa
open Go.RowKit
set_option linter.unusedVariables false
set_option linter.unusedSimpArgs false
/-- The last one begins ahead of x, or there is none. -/
def Ahd (out : List Rn) (x : Rn) : Prop := out.length = 0 ∨ (out.getD (out.length - 1) zRn).a < x.a
/-- What the loop of With holds: A went, R is to come, x0 was given, x has grown, out is what is told. -/
structure WI (A R : List Rn) (x0 x : Rn) (out : List Rn) : Prop where
  may : Mayr x
  fst : ∀ z ∈ out, ∀ y ∈ R, z.e < y.a
  can : Can out
  len : out.length ≤ A.length + 1
  cas : ((∀ z ∈ out, z.e < x.a) ∧ out.length ≤ A.length ∧ ∀ p, Bt (out ++ [x]) p ↔ Bt (A ++ [x0]) p) ∨ (x ∈ out ∧ ¬ Ahd out x ∧ ∀ p, Bt out p ↔ Bt (A ++ [x0]) p)
theorem WI.start (R : List Rn) {x0 : Rn} (h : Mayr x0) : WI [] R x0 x0 [] := ⟨h, fun z hz => by simp at hz, Can.nil, by simp, Or.inl ⟨fun z hz => by simp at hz, by simp, fun p => Iff.rfl⟩⟩
theorem ahd_of {out : List Rn} {x : Rn} (hm : ∀ z ∈ out, Mayr z) (h : ∀ z ∈ out, z.e < x.a) : Ahd out x := by
  by_cases h0 : out.length = 0
  · exact Or.inl h0
  · have h1 := gd_mem (L := out) (i := out.length - 1) (by omega)
    have h2 := h _ h1
    have h3 := (hm _ h1).lt
    exact Or.inr (by omega)
theorem gd_snoc (out : List Rn) (y : Rn) : (out ++ [y]).getD ((out ++ [y]).length - 1) zRn = y := by simp [List.getD]
theorem nahd_snoc {out : List Rn} {x y : Rn} (h : x.a ≤ y.a) : ¬ Ahd (out ++ [y]) x := by
  rintro (h1 | h1)
  · simp at h1
  · rw [gd_snoc] at h1
    omega
theorem bt_grow {A : List Rn} {x0 y : Rn} {p : Int} : Bt (A ++ [y] ++ [x0]) p ↔ Bt (A ++ [x0]) p ∨ Inr y p := by
  simp only [bt_append, bt_cons]
  constructor
  · rintro ((h | h | h) | h | h)
    · exact Or.inl (Or.inl h)
    · exact Or.inr h
    · exact (Bt.nil h).elim
    · exact Or.inl (Or.inr (Or.inl h))
    · exact (Bt.nil h).elim
  · rintro ((h | h | h) | h)
    · exact Or.inl (Or.inl h)
    · exact Or.inr (Or.inl h)
    · exact (Bt.nil h).elim
    · exact Or.inl (Or.inr (Or.inl h))
theorem bt_snoc {A : List Rn} {y : Rn} {p : Int} : Bt (A ++ [y]) p ↔ Bt A p ∨ Inr y p := by
  rw [bt_append, bt_cons]
  constructor
  · rintro (h | h | h)
    · exact Or.inl h
    · exact Or.inr h
    · exact (Bt.nil h).elim
  · rintro (h | h)
    · exact Or.inl h
    · exact Or.inr (Or.inl h)
theorem fst_snoc {out R : List Rn} {y : Rn} (hR : Can (y :: R)) (h : ∀ z ∈ out, ∀ u ∈ y :: R, z.e < u.a) : ∀ z ∈ out ++ [y], ∀ u ∈ R, z.e < u.a := by
  intro z hz u hu
  rcases List.mem_append.1 hz with hz | hz
  · exact h z hz u (List.mem_cons_of_mem _ hu)
  · simp at hz
    subst hz
    exact (List.pairwise_cons.1 hR.2).1 u hu
theorem WI.before {A R : List Rn} {x0 x y : Rn} {out : List Rn} (h : WI A (y :: R) x0 x out) (hR : Can (y :: R)) (hy : y.e < x.a) : WI (A ++ [y]) R x0 x (out ++ [y]) := by
  have hym := hR.1 y (by simp)
  have hf : ∀ z ∈ out, z.e < y.a := fun z hz => h.fst z hz y (by simp)
  have hyl := hym.lt
  have hxl := h.may.lt
  refine ⟨h.may, fst_snoc hR h.fst, can_snoc h.can hym hf, by simp; have := h.len; omega, ?_⟩
  rcases h.cas with ⟨c1, c2, c3⟩ | ⟨c1, c2, c3⟩
  · refine Or.inl ⟨fun z hz => ?_, by simp; omega, fun p => ?_⟩
    · rcases List.mem_append.1 hz with hz | hz
      · exact c1 z hz
      · simp at hz; subst hz; exact hy
    · rw [bt_grow (A := A), ← c3 p, bt_snoc, bt_snoc, bt_snoc]
      constructor
      · rintro ((h | h) | h)
        · exact Or.inl (Or.inl h)
        · exact Or.inr h
        · exact Or.inl (Or.inr h)
      · rintro ((h | h) | h)
        · exact Or.inl (Or.inl h)
        · exact Or.inr h
        · exact Or.inl (Or.inr h)
  · have := hf x c1
    omega
theorem WI.enter {A R : List Rn} {x0 x y : Rn} {out : List Rn} (h : WI A (y :: R) x0 x out) (hR : Can (y :: R)) (hy : x.e < y.a) (ha : Ahd out x) : WI (A ++ [y]) R x0 x (out ++ [x] ++ [y]) := by
  have hym := hR.1 y (by simp)
  have hf : ∀ z ∈ out, z.e < y.a := fun z hz => h.fst z hz y (by simp)
  have hxl := h.may.lt
  rcases h.cas with ⟨c1, c2, c3⟩ | ⟨c1, c2, c3⟩
  · have hc1 : Can (out ++ [x]) := can_snoc h.can h.may c1
    have hf1 : ∀ z ∈ out ++ [x], z.e < y.a := fun z hz => by
      rcases List.mem_append.1 hz with hz | hz
      · exact hf z hz
      · simp at hz; subst hz; exact hy
    refine ⟨h.may, ?_, can_snoc hc1 hym hf1, by simp; omega, Or.inr ⟨by simp, nahd_snoc (by omega), fun p => ?_⟩⟩
    · refine fst_snoc hR fun z hz u hu => ?_
      rcases List.mem_append.1 hz with hz | hz
      · exact h.fst z hz u hu
      · simp at hz; subst hz
        rcases List.mem_cons.1 hu with rfl | hu
        · exact hy
        · have h7 := (List.pairwise_cons.1 hR.2).1 u hu
          have := hym.lt
          omega
    · rw [bt_grow (A := A), ← c3 p, bt_snoc]
  · exact absurd ha c2
theorem WI.go {A R : List Rn} {x0 x y : Rn} {out : List Rn} (h : WI A (y :: R) x0 x out) (hR : Can (y :: R)) (hy : x.e < y.a) (ha : ¬ Ahd out x) : WI (A ++ [y]) R x0 x (out ++ [y]) := by
  have hym := hR.1 y (by simp)
  have hf : ∀ z ∈ out, z.e < y.a := fun z hz => h.fst z hz y (by simp)
  have hxl := h.may.lt
  rcases h.cas with ⟨c1, c2, c3⟩ | ⟨c1, c2, c3⟩
  · exact absurd (ahd_of h.can.1 c1) ha
  · refine ⟨h.may, fst_snoc hR h.fst, can_snoc h.can hym hf, by simp; have := h.len; omega, Or.inr ⟨by simp [c1], nahd_snoc (by omega), fun p => ?_⟩⟩
    rw [bt_grow (A := A), ← c3 p, bt_snoc]
theorem WI.meet {A R : List Rn} {x0 x y : Rn} {out : List Rn} (h : WI A (y :: R) x0 x out) (hR : Can (y :: R)) (h1 : ¬ y.e < x.a) (h2 : ¬ x.e < y.a) : WI (A ++ [y]) R x0 ⟨min x.a y.a, max x.e y.e - min x.a y.a⟩ out := by
  have hym := hR.1 y (by simp)
  have hf : ∀ z ∈ out, z.e < y.a := fun z hz => h.fst z hz y (by simp)
  rcases h.cas with ⟨c1, c2, c3⟩ | ⟨c1, c2, c3⟩
  · have hx := h.may
    refine ⟨?_, fun z hz u hu => h.fst z hz u (List.mem_cons_of_mem _ hu), h.can, by simp; omega, Or.inl ⟨fun z hz => ?_, by simp; omega, fun p => ?_⟩⟩
    · unfold Mayr Rn.e at *
      dsimp only
      omega
    · have := c1 z hz
      have := hf z hz
      dsimp only
      omega
    · rw [bt_grow (A := A), ← c3 p, bt_snoc, bt_snoc, or_assoc]
      have hxl := hx.lt
      have hyl := hym.lt
      have : Inr ⟨min x.a y.a, max x.e y.e - min x.a y.a⟩ p ↔ Inr x p ∨ Inr y p := by
        unfold Inr Rn.e at *
        dsimp only
        omega
      rw [this]
  · have := hf x c1
    omega
theorem WI.end1 {A : List Rn} {x0 x : Rn} {out : List Rn} (h : WI A [] x0 x out) (hA : ∀ y ∈ A, Mayr y) (hx : Mayr x0) (ha : Ahd out x) : out ++ [x] = tog (A ++ [x0]) := by
  rcases h.cas with ⟨c1, c2, c3⟩ | ⟨c1, c2, c3⟩
  · exact (tog_is (may_app hA (by simpa using hx)) (can_snoc h.can h.may c1) (fun p => (c3 p).symm)).symm
  · exact absurd ha c2
theorem WI.end2 {A : List Rn} {x0 x : Rn} {out : List Rn} (h : WI A [] x0 x out) (hA : ∀ y ∈ A, Mayr y) (hx : Mayr x0) (ha : ¬ Ahd out x) : out = tog (A ++ [x0]) := by
  rcases h.cas with ⟨c1, c2, c3⟩ | ⟨c1, c2, c3⟩
  · exact absurd (ahd_of h.can.1 c1) ha
  · exact (tog_is (may_app hA (by simpa using hx)) h.can (fun p => (c3 p).symm)).symm
theorem drop_at {l : List Rn} {k : Nat} (h : k < l.length) : l.drop k = l.getD k zRn :: l.drop (k + 1) := by rw [gd h]; exact List.drop_eq_getElem_cons h
theorem Can.drop {l : List Rn} (h : Can l) (k : Nat) : Can (l.drop k) := h.sub (List.drop_sublist _ _)
end Go.Proofs.Ytgfondgejimkkaa

namespace Go.Proofs.Ytgfondgejimkkaa
open Go.RowKit
set_option linter.unusedVariables false
set_option linter.unusedSimpArgs false
set_option maxRecDepth 100000 in
set_option maxHeartbeats 16000000 in
theorem rwith_any (w : World) (ao : Option Addr) (n cap : Nat) (l : List Rn) (x : Rn) (hl : l.length = n) (hn : n ≤ 5000) (hx : Mayr x) (hc : Can l) (hs : Srcr w ao l) :
    Calls Try.prog 30 #[.slice ao n cap, .agg #[.int .i64 x.a, .int .i64 x.n]] w fun e w' => ∃ v, e = .returned v ∧ Ownr w' w.heap.size v (tog (l ++ [x])) ∧ Kp (fun _ => False) w w' := by
  have HL := hid hl
  have HC := hid hc
  have HS := hid hs
  have HX := hid hx
  have HI0 := hid (WI.start (l.drop 0) hx)
  clear hl hc hs hx
  obtain ⟨xa0, xn0⟩ := x
  go_enter Try.func30, Try.ntmps30
  go_wp2_with fail
  have k0 : Kp (fun _ => False) w (w.alloc (.cells #[.int .i64 xa0, .int .i64 xn0] 38)) := (Kp.refl _ _).alloc _
  have S3 := hid (St.new 38 w #[.int .i64 xa0, .int .i64 xn0])
  have K0 := hid k0
  clear k0
  generalize w.alloc (.cells #[.int .i64 xa0, .int .i64 xn0] 38) = W0 at *
  obtain ⟨P, hP⟩ : ∃ P, P = w.heap.size := ⟨_, rfl⟩
  rw [← hP] at S3 ⊢
  have HP := hid hP
  clear hP
  go_loopw [5, 6] (fun v i wr => ∃ (k : Nat) (xa xn : Int) (out : List Rn), i = .int .i64 (k : Int) ∧ k ≤ n ∧ Hid (WI (l.take k) (l.drop k) ⟨xa0, xn0⟩ ⟨xa, xn⟩ out) ∧ Hid (Ownr wr P v out) ∧ Hid (Kp (fun _ => False) w wr) ∧ Hid (St 38 wr P #[.int .i64 xa, .int .i64 xn]) ∧ Hid (∀ g, v.ownBlock = some g → P < g)) (fun _ i _ => n - (intOf i).toNat)
  case atStart => exact ⟨0, xa0, xn0, [], rfl, Nat.zero_le _, HI0, Ownr.nil _ _, K0, S3, fun g e => by simp [Value.ownBlock] at e⟩
  case round =>
    clear S3 K0 HI0
    obtain ⟨k, xa, xn, out, rfl, hk, HI, HO, HK, HP3, HPG⟩ := hrel
    have hxm := HI.out.may
    unfold Mayr Rn.e at hxm
    dsimp only at hxm
    obtain ⟨hx1, hx2, hx3⟩ := hxm
    have hw0 : IntKind.i64.wrap (xa + xn) = xa + xn := by rw [IntKind.wrap_i64]; omega
    have z3 : wr.cell? ⟨P, 0, none⟩ = some (.int .i64 xa) := HP3.out.cell 0
    have z4 : wr.cell? ⟨P, 1, none⟩ = some (.int .i64 xn) := HP3.out.cell 1
    have HPL : Hid (P < wr.heap.size) := HP3.out.lt
    have HOB : Hid (∀ g, u5.ownBlock = some g → g < wr.heap.size) := fun g e => (HO.out.blk e).2.1
    by_cases hlt : k < n
    · have hkl : k < l.length := by have := HL.out; omega
      have HD := hid (drop_at hkl)
      have HT := hid (take_snocr hkl)
      have HCD := hid (HC.out.drop k)
      rw [HD.out] at HI HCD
      obtain ⟨gb, off, rfl, hgb, x0, x1⟩ := (HS.out.kp HK.out (fun _ _ _ _ h => h)).at (i := k) hkl
      have hym := HC.out.1 _ (gd_mem hkl)
      generalize l.getD k zRn = y at *
      obtain ⟨ya, yn⟩ := y
      unfold Mayr Rn.e at hym
      dsimp only at x0 x1 hym
      obtain ⟨hy1, hy2, hy3⟩ := hym
      have hol : out.length ≤ 5001 := by have := HI.out.len; rw [List.length_take] at this; omega
      have hw1 : IntKind.i64.wrap (ya + yn) = ya + yn := by rw [IntKind.wrap_i64]; omega
      by_cases h1 : ya + yn < xa
      · have H1 := hid h1
        have h2 : decide (xa < ya) = false := by simp; omega
        have h2b : ¬ xa < ya := by omega
        go_wp2_with (first | (refine wpList_store_r rfl _ _ rfl _ rfl (e := zRn) (e' := ⟨ya, yn⟩) rfl (Rn.B.new wr zRn) ?_; intro U sU jU; have KU : Hid (Kp (fun _ => False) wr U) := ((Kp.refl (fun _ => False) wr).alloc _).trans jU (fun i h1 h2 => by omega); have y0 : U.cell? ⟨wr.heap.size, 0, none⟩ = some (.int .i64 ya) := sU.cell 0; have y1 : U.cell? ⟨wr.heap.size, 1, none⟩ = some (.int .i64 yn) := sU.cell 1; have p0 : U.cell? ⟨P, 0, none⟩ = some (.int .i64 xa) := (HP3.out.kp KU.out (fun h => h)).cell 0; have p1 : U.cell? ⟨P, 1, none⟩ = some (.int .i64 xn) := (HP3.out.kp KU.out (fun h => h)).cell 1; have SU := hid sU; have PU := hid (HP3.out.kp KU.out (fun h => h)); clear sU jU x0 x1 z3 z4))
        go_quiet (fail)
        have KV : Hid (Kp (fun _ => False) wr (U.drewN nq)) := KU.out.trans (drewN_kp _ _ _) (fun _ _ h => h)
        have SV := hid (SU.out.kp (drewN_kp (fun _ => False) U nq) (fun h => h))
        have PV := hid (PU.out.kp (drewN_kp (fun _ => False) U nq) (fun h => h))
        clear y0 y1 p0 p1 SU PU
        generalize U.drewN nq = V at *
        have y0 : V.cell? ⟨wr.heap.size, 0, none⟩ = some (.int .i64 ya) := SV.out.cell 0
        have y1 : V.cell? ⟨wr.heap.size, 1, none⟩ = some (.int .i64 yn) := SV.out.cell 1
        have p0 : V.cell? ⟨P, 0, none⟩ = some (.int .i64 xa) := PV.out.cell 0
        have p1 : V.cell? ⟨P, 1, none⟩ = some (.int .i64 xn) := PV.out.cell 1
        go_wp2_with (first | (at_builtin; refine wpList_append_rr rfl _ _ rfl P u5 out rfl ((HO.out.kp KV.out (fun _ _ h => h)).kp ((Kp.refl (fun _ => False) V).alloc _) (fun _ _ h => h)) (some ⟨V.heap.size, 0, none⟩) 1 1 [⟨ya, yn⟩] rfl rfl (fun e => by cases e) (srcr_new1 V ⟨ya, yn⟩) (by (try simp only [List.length_append, List.length_singleton]); omega) (by have h9 : P < wr.heap.size := HPL.out; have h8 := KV.out.size; rw [World.size_alloc]; omega) ?_; intro va wa oa ka ba; have Oa := hid oa; have Ka : Hid (Kp (fun i => Value.ownBlock u5 = some i) V wa) := ((Kp.refl _ _).alloc _).trans ka (fun _ _ h => h); have Ba := hid ba; clear oa ka ba; have Na : Hid (∀ g, Value.ownBlock u5 = some g → g ≠ wr.heap.size ∧ g ≠ P) := (fun g e => (by have h1 := HOB.out g e; have h2 := HPG.out g e; omega)); have Sa := hid (SV.out.kp Ka.out (fun e => (Na.out _ e).1 rfl)); have Qa := hid (PV.out.kp Ka.out (fun e => (Na.out _ e).2 rfl)); have q0 : wa.cell? ⟨wr.heap.size, 0, none⟩ = some (.int .i64 ya) := Sa.out.cell 0; have q1 : wa.cell? ⟨wr.heap.size, 1, none⟩ = some (.int .i64 yn) := Sa.out.cell 1; clear y0 y1 p0 p1))
        go_roundw
        case rel => exact ⟨k + 1, xa, xn, out ++ [(⟨ya, yn⟩ : Rn)], by go_num, hlt, by rw [HT.out]; exact HI.out.before HCD.out H1.out, Oa, ((HK.out.trans KV.out (fun _ _ h => h)).trans Ka.out (fun i hi e => by have := HPG.out i e; have := HP.out; omega)), Qa.out, (fun g e => (Ba.out.elim (fun e2 => HPG.out g (e2 ▸ e)) (fun e2 => by rw [e2] at e; have h9 : P < wr.heap.size := HPL.out; have h8 := KV.out.size; simp at e; omega)))⟩
        case measure => simp [intOf]; omega
      · by_cases h2 : xa + xn < ya
        · have H2 := hid h2
          have h3 : decide (xa < ya) = true := by simp; omega
          have h3b : xa < ya := by omega
          by_cases hA : Ahd out ⟨xa, xn⟩
          · have HA := hid hA
            by_cases h0 : out.length = 0
            · have HO2 : ∃ ao2 cap2, u5 = .slice ao2 0 cap2 := by
                obtain ⟨a2, c2, e2, _⟩ := HO.out.src
                exact ⟨a2, c2, by rw [e2, h0]⟩
              obtain ⟨ao2, cap2, rfl⟩ := HO2
              go_wp2_with (first | (refine wpList_store_r rfl _ _ rfl _ rfl (e := zRn) (e' := ⟨ya, yn⟩) rfl (Rn.B.new wr zRn) ?_; intro U sU jU; have KU : Hid (Kp (fun _ => False) wr U) := ((Kp.refl (fun _ => False) wr).alloc _).trans jU (fun i h1 h2 => by omega); have y0 : U.cell? ⟨wr.heap.size, 0, none⟩ = some (.int .i64 ya) := sU.cell 0; have y1 : U.cell? ⟨wr.heap.size, 1, none⟩ = some (.int .i64 yn) := sU.cell 1; have p0 : U.cell? ⟨P, 0, none⟩ = some (.int .i64 xa) := (HP3.out.kp KU.out (fun h => h)).cell 0; have p1 : U.cell? ⟨P, 1, none⟩ = some (.int .i64 xn) := (HP3.out.kp KU.out (fun h => h)).cell 1; have SU := hid sU; have PU := hid (HP3.out.kp KU.out (fun h => h)); clear sU jU x0 x1 z3 z4))
              go_quiet (fail)
              have KV : Hid (Kp (fun _ => False) wr (U.drewN nq)) := KU.out.trans (drewN_kp _ _ _) (fun _ _ h => h)
              have SV := hid (SU.out.kp (drewN_kp (fun _ => False) U nq) (fun h => h))
              have PV := hid (PU.out.kp (drewN_kp (fun _ => False) U nq) (fun h => h))
              clear y0 y1 p0 p1 SU PU
              generalize U.drewN nq = V at *
              have y0 : V.cell? ⟨wr.heap.size, 0, none⟩ = some (.int .i64 ya) := SV.out.cell 0
              have y1 : V.cell? ⟨wr.heap.size, 1, none⟩ = some (.int .i64 yn) := SV.out.cell 1
              have p0 : V.cell? ⟨P, 0, none⟩ = some (.int .i64 xa) := PV.out.cell 0
              have p1 : V.cell? ⟨P, 1, none⟩ = some (.int .i64 xn) := PV.out.cell 1
              go_wp2_with (first | (at_builtin; refine wpList_append_rr rfl _ _ rfl P (.slice ao2 0 cap2) out rfl ((HO.out.kp KV.out (fun _ _ h => h)).kp ((Kp.refl (fun _ => False) V).alloc _) (fun _ _ h => h)) (some ⟨V.heap.size, 0, none⟩) 1 1 [⟨xa, xn⟩] rfl rfl (fun e => by cases e) (srcr_new1 V ⟨xa, xn⟩) (by (try simp only [List.length_append, List.length_singleton]); omega) (by have h9 : P < wr.heap.size := HPL.out; have h8 := KV.out.size; rw [World.size_alloc]; omega) ?_; intro va wa oa ka ba; have Oa := hid oa; have Ka : Hid (Kp (fun i => Value.ownBlock (.slice ao2 0 cap2) = some i) V wa) := ((Kp.refl _ _).alloc _).trans ka (fun _ _ h => h); have Ba := hid ba; clear oa ka ba; have Na : Hid (∀ g, Value.ownBlock (.slice ao2 0 cap2) = some g → g ≠ wr.heap.size ∧ g ≠ P) := (fun g e => (by have h1 := HOB.out g e; have h2 := HPG.out g e; omega)); have Sa := hid (SV.out.kp Ka.out (fun e => (Na.out _ e).1 rfl)); have Qa := hid (PV.out.kp Ka.out (fun e => (Na.out _ e).2 rfl)); have q0 : wa.cell? ⟨wr.heap.size, 0, none⟩ = some (.int .i64 ya) := Sa.out.cell 0; have q1 : wa.cell? ⟨wr.heap.size, 1, none⟩ = some (.int .i64 yn) := Sa.out.cell 1; clear y0 y1 p0 p1) | (at_builtin; refine wpList_append_rr rfl _ _ rfl P va (out ++ [⟨xa, xn⟩]) rfl (Oa.out.kp ((Kp.refl (fun _ => False) wa).alloc _) (fun _ _ h => h)) (some ⟨wa.heap.size, 0, none⟩) 1 1 [⟨ya, yn⟩] rfl rfl (fun e => by cases e) (srcr_new1 wa ⟨ya, yn⟩) (by (try simp only [List.length_append, List.length_singleton]); omega) (by have h9 : P < wr.heap.size := HPL.out; have h8 := Nat.le_trans KV.out.size Ka.out.size; rw [World.size_alloc]; omega) ?_; intro vb wb ob kb bb; have Ob := hid ob; have Kb : Hid (Kp (fun i => va.ownBlock = some i) wa wb) := ((Kp.refl _ _).alloc _).trans kb (fun _ _ h => h); have Bb := hid bb; clear ob kb bb))
              have BLA := hid (fun g e => (Ba.out.elim (fun e2 => HPG.out g (e2 ▸ e)) (fun e2 => by rw [e2] at e; have h9 : P < wr.heap.size := HPL.out; have h8 := KV.out.size; simp at e; omega)))
              go_roundw
              case rel => exact ⟨k + 1, xa, xn, out ++ [(⟨xa, xn⟩ : Rn)] ++ [(⟨ya, yn⟩ : Rn)], by go_num, hlt, by rw [HT.out]; exact HI.out.enter HCD.out H2.out HA.out, Ob, ((HK.out.trans KV.out (fun _ _ h => h)).trans Ka.out (fun i hi e => by have := HPG.out i e; have := HP.out; omega)).trans Kb.out (fun i hi e => by have := BLA.out i e; have := HP.out; omega), Qa.out.kp Kb.out (fun e => by have := BLA.out P e; omega), (fun g e => (Bb.out.elim (fun e2 => BLA.out g (e2 ▸ e)) (fun e2 => by rw [e2] at e; have h9 : P < wr.heap.size := HPL.out; have h8 := Nat.le_trans KV.out.size Ka.out.size; simp at e; omega)))⟩
              case measure => simp [intOf]; omega
            · skip
              obtain ⟨m, hm⟩ : ∃ m, out.length = m + 1 := ⟨out.length - 1, by omega⟩
              have hla : (out.getD m zRn).a < xa := by
                rcases hA with h | h
                · omega
                · rw [hm] at h; exact h
              have HO2 : ∃ ao2 cap2, u5 = .slice ao2 (m + 1) cap2 ∧ Srcr wr ao2 out := by
                obtain ⟨a2, c2, e2, s2, _⟩ := HO.out.src
                exact ⟨a2, c2, by rw [e2, hm], s2⟩
              obtain ⟨ao2, cap2, rfl, hS2⟩ := HO2
              have HS2 := hid hS2
              clear hS2
              go_wp2_with (first | (refine wpList_store_r rfl _ _ rfl _ rfl (e := zRn) (e' := ⟨ya, yn⟩) rfl (Rn.B.new wr zRn) ?_; intro U sU jU; have KU : Hid (Kp (fun _ => False) wr U) := ((Kp.refl (fun _ => False) wr).alloc _).trans jU (fun i h1 h2 => by omega); have y0 : U.cell? ⟨wr.heap.size, 0, none⟩ = some (.int .i64 ya) := sU.cell 0; have y1 : U.cell? ⟨wr.heap.size, 1, none⟩ = some (.int .i64 yn) := sU.cell 1; have p0 : U.cell? ⟨P, 0, none⟩ = some (.int .i64 xa) := (HP3.out.kp KU.out (fun h => h)).cell 0; have p1 : U.cell? ⟨P, 1, none⟩ = some (.int .i64 xn) := (HP3.out.kp KU.out (fun h => h)).cell 1; have SU := hid sU; have PU := hid (HP3.out.kp KU.out (fun h => h)); clear sU jU x0 x1 z3 z4))
              obtain ⟨gb2, off2, rfl, hgb2, x20, x21⟩ := (HS2.out.kp KU.out (fun _ _ _ _ h => h)).at (i := m) (by omega)
              generalize (out.getD m zRn).a = la at *
              have hne : ((m : Int) + 1 == 0) = false := by rw [beq_eq_false_iff_ne]; omega
              have hw9 : IntKind.i64.wrap ((m : Int) + 1 - 1) = (m : Int) := by rw [IntKind.wrap_i64]; omega
              clear x21 hgb2
              have hlb : decide (la < xa) = true := by simpa using hla
              go_quiet (fail)
              have KV : Hid (Kp (fun _ => False) wr (U.drewN nq)) := KU.out.trans (drewN_kp _ _ _) (fun _ _ h => h)
              have SV := hid (SU.out.kp (drewN_kp (fun _ => False) U nq) (fun h => h))
              have PV := hid (PU.out.kp (drewN_kp (fun _ => False) U nq) (fun h => h))
              clear y0 y1 p0 p1 SU PU
              generalize U.drewN nq = V at *
              have y0 : V.cell? ⟨wr.heap.size, 0, none⟩ = some (.int .i64 ya) := SV.out.cell 0
              have y1 : V.cell? ⟨wr.heap.size, 1, none⟩ = some (.int .i64 yn) := SV.out.cell 1
              have p0 : V.cell? ⟨P, 0, none⟩ = some (.int .i64 xa) := PV.out.cell 0
              have p1 : V.cell? ⟨P, 1, none⟩ = some (.int .i64 xn) := PV.out.cell 1
              go_wp2_with (first | (at_builtin; refine wpList_append_rr rfl _ _ rfl P (.slice (some ⟨gb2, off2, none⟩) (m + 1) cap2) out rfl ((HO.out.kp KV.out (fun _ _ h => h)).kp ((Kp.refl (fun _ => False) V).alloc _) (fun _ _ h => h)) (some ⟨V.heap.size, 0, none⟩) 1 1 [⟨xa, xn⟩] rfl rfl (fun e => by cases e) (srcr_new1 V ⟨xa, xn⟩) (by (try simp only [List.length_append, List.length_singleton]); omega) (by have h9 : P < wr.heap.size := HPL.out; have h8 := KV.out.size; rw [World.size_alloc]; omega) ?_; intro va wa oa ka ba; have Oa := hid oa; have Ka : Hid (Kp (fun i => Value.ownBlock (.slice (some ⟨gb2, off2, none⟩) (m + 1) cap2) = some i) V wa) := ((Kp.refl _ _).alloc _).trans ka (fun _ _ h => h); have Ba := hid ba; clear oa ka ba; have Na : Hid (∀ g, Value.ownBlock (.slice (some ⟨gb2, off2, none⟩) (m + 1) cap2) = some g → g ≠ wr.heap.size ∧ g ≠ P) := (fun g e => (by have h1 := HOB.out g e; have h2 := HPG.out g e; omega)); have Sa := hid (SV.out.kp Ka.out (fun e => (Na.out _ e).1 rfl)); have Qa := hid (PV.out.kp Ka.out (fun e => (Na.out _ e).2 rfl)); have q0 : wa.cell? ⟨wr.heap.size, 0, none⟩ = some (.int .i64 ya) := Sa.out.cell 0; have q1 : wa.cell? ⟨wr.heap.size, 1, none⟩ = some (.int .i64 yn) := Sa.out.cell 1; clear y0 y1 p0 p1) | (at_builtin; refine wpList_append_rr rfl _ _ rfl P va (out ++ [⟨xa, xn⟩]) rfl (Oa.out.kp ((Kp.refl (fun _ => False) wa).alloc _) (fun _ _ h => h)) (some ⟨wa.heap.size, 0, none⟩) 1 1 [⟨ya, yn⟩] rfl rfl (fun e => by cases e) (srcr_new1 wa ⟨ya, yn⟩) (by (try simp only [List.length_append, List.length_singleton]); omega) (by have h9 : P < wr.heap.size := HPL.out; have h8 := Nat.le_trans KV.out.size Ka.out.size; rw [World.size_alloc]; omega) ?_; intro vb wb ob kb bb; have Ob := hid ob; have Kb : Hid (Kp (fun i => va.ownBlock = some i) wa wb) := ((Kp.refl _ _).alloc _).trans kb (fun _ _ h => h); have Bb := hid bb; clear ob kb bb))
              have BLA := hid (fun g e => (Ba.out.elim (fun e2 => HPG.out g (e2 ▸ e)) (fun e2 => by rw [e2] at e; have h9 : P < wr.heap.size := HPL.out; have h8 := KV.out.size; simp at e; omega)))
              go_roundw
              case rel => exact ⟨k + 1, xa, xn, out ++ [(⟨xa, xn⟩ : Rn)] ++ [(⟨ya, yn⟩ : Rn)], by go_num, hlt, by rw [HT.out]; exact HI.out.enter HCD.out H2.out HA.out, Ob, ((HK.out.trans KV.out (fun _ _ h => h)).trans Ka.out (fun i hi e => by have := HPG.out i e; have := HP.out; omega)).trans Kb.out (fun i hi e => by have := BLA.out i e; have := HP.out; omega), Qa.out.kp Kb.out (fun e => by have := BLA.out P e; omega), (fun g e => (Bb.out.elim (fun e2 => BLA.out g (e2 ▸ e)) (fun e2 => by rw [e2] at e; have h9 : P < wr.heap.size := HPL.out; have h8 := Nat.le_trans KV.out.size Ka.out.size; simp at e; omega)))⟩
              case measure => simp [intOf]; omega
          · have HA := hid hA
            have h0 : out.length ≠ 0 := fun h => hA (Or.inl h)
            obtain ⟨m, hm⟩ : ∃ m, out.length = m + 1 := ⟨out.length - 1, by omega⟩
            have hla : ¬ (out.getD m zRn).a < xa := by
              intro h
              exact hA (Or.inr (by rw [hm]; exact h))
            have HO2 : ∃ ao2 cap2, u5 = .slice ao2 (m + 1) cap2 ∧ Srcr wr ao2 out := by
              obtain ⟨a2, c2, e2, s2, _⟩ := HO.out.src
              exact ⟨a2, c2, by rw [e2, hm], s2⟩
            obtain ⟨ao2, cap2, rfl, hS2⟩ := HO2
            have HS2 := hid hS2
            clear hS2
            go_wp2_with (first | (refine wpList_store_r rfl _ _ rfl _ rfl (e := zRn) (e' := ⟨ya, yn⟩) rfl (Rn.B.new wr zRn) ?_; intro U sU jU; have KU : Hid (Kp (fun _ => False) wr U) := ((Kp.refl (fun _ => False) wr).alloc _).trans jU (fun i h1 h2 => by omega); have y0 : U.cell? ⟨wr.heap.size, 0, none⟩ = some (.int .i64 ya) := sU.cell 0; have y1 : U.cell? ⟨wr.heap.size, 1, none⟩ = some (.int .i64 yn) := sU.cell 1; have p0 : U.cell? ⟨P, 0, none⟩ = some (.int .i64 xa) := (HP3.out.kp KU.out (fun h => h)).cell 0; have p1 : U.cell? ⟨P, 1, none⟩ = some (.int .i64 xn) := (HP3.out.kp KU.out (fun h => h)).cell 1; have SU := hid sU; have PU := hid (HP3.out.kp KU.out (fun h => h)); clear sU jU x0 x1 z3 z4))
            obtain ⟨gb2, off2, rfl, hgb2, x20, x21⟩ := (HS2.out.kp KU.out (fun _ _ _ _ h => h)).at (i := m) (by omega)
            generalize (out.getD m zRn).a = la at *
            have hne : ((m : Int) + 1 == 0) = false := by rw [beq_eq_false_iff_ne]; omega
            have hw9 : IntKind.i64.wrap ((m : Int) + 1 - 1) = (m : Int) := by rw [IntKind.wrap_i64]; omega
            clear x21 hgb2
            have hlb : decide (la < xa) = false := by simpa using hla
            go_quiet (fail)
            have KV : Hid (Kp (fun _ => False) wr (U.drewN nq)) := KU.out.trans (drewN_kp _ _ _) (fun _ _ h => h)
            have SV := hid (SU.out.kp (drewN_kp (fun _ => False) U nq) (fun h => h))
            have PV := hid (PU.out.kp (drewN_kp (fun _ => False) U nq) (fun h => h))
            clear y0 y1 p0 p1 SU PU
            generalize U.drewN nq = V at *
            have y0 : V.cell? ⟨wr.heap.size, 0, none⟩ = some (.int .i64 ya) := SV.out.cell 0
            have y1 : V.cell? ⟨wr.heap.size, 1, none⟩ = some (.int .i64 yn) := SV.out.cell 1
            have p0 : V.cell? ⟨P, 0, none⟩ = some (.int .i64 xa) := PV.out.cell 0
            have p1 : V.cell? ⟨P, 1, none⟩ = some (.int .i64 xn) := PV.out.cell 1
            go_wp2_with (first | (at_builtin; refine wpList_append_rr rfl _ _ rfl P (.slice (some ⟨gb2, off2, none⟩) (m + 1) cap2) out rfl ((HO.out.kp KV.out (fun _ _ h => h)).kp ((Kp.refl (fun _ => False) V).alloc _) (fun _ _ h => h)) (some ⟨V.heap.size, 0, none⟩) 1 1 [⟨ya, yn⟩] rfl rfl (fun e => by cases e) (srcr_new1 V ⟨ya, yn⟩) (by (try simp only [List.length_append, List.length_singleton]); omega) (by have h9 : P < wr.heap.size := HPL.out; have h8 := KV.out.size; rw [World.size_alloc]; omega) ?_; intro va wa oa ka ba; have Oa := hid oa; have Ka : Hid (Kp (fun i => Value.ownBlock (.slice (some ⟨gb2, off2, none⟩) (m + 1) cap2) = some i) V wa) := ((Kp.refl _ _).alloc _).trans ka (fun _ _ h => h); have Ba := hid ba; clear oa ka ba; have Na : Hid (∀ g, Value.ownBlock (.slice (some ⟨gb2, off2, none⟩) (m + 1) cap2) = some g → g ≠ wr.heap.size ∧ g ≠ P) := (fun g e => (by have h1 := HOB.out g e; have h2 := HPG.out g e; omega)); have Sa := hid (SV.out.kp Ka.out (fun e => (Na.out _ e).1 rfl)); have Qa := hid (PV.out.kp Ka.out (fun e => (Na.out _ e).2 rfl)); have q0 : wa.cell? ⟨wr.heap.size, 0, none⟩ = some (.int .i64 ya) := Sa.out.cell 0; have q1 : wa.cell? ⟨wr.heap.size, 1, none⟩ = some (.int .i64 yn) := Sa.out.cell 1; clear y0 y1 p0 p1))
            go_roundw
            case rel => exact ⟨k + 1, xa, xn, out ++ [(⟨ya, yn⟩ : Rn)], by go_num, hlt, by rw [HT.out]; exact HI.out.go HCD.out H2.out HA.out, Oa, ((HK.out.trans KV.out (fun _ _ h => h)).trans Ka.out (fun i hi e => by have := HPG.out i e; have := HP.out; omega)), Qa.out, (fun g e => (Ba.out.elim (fun e2 => HPG.out g (e2 ▸ e)) (fun e2 => by rw [e2] at e; have h9 : P < wr.heap.size := HPL.out; have h8 := KV.out.size; simp at e; omega)))⟩
            case measure => simp [intOf]; omega
        · have H1 := hid h1
          have H2 := hid h2
          have hw2 : IntKind.i64.wrap (max (xa + xn) (ya + yn) - min xa ya) = max (xa + xn) (ya + yn) - min xa ya := by rw [IntKind.wrap_i64]; omega
          go_wp2_with (first | (refine wpList_store_r rfl _ _ rfl _ rfl (e := zRn) (e' := ⟨ya, yn⟩) rfl (Rn.B.new wr zRn) ?_; intro U sU jU; have KU : Hid (Kp (fun _ => False) wr U) := ((Kp.refl (fun _ => False) wr).alloc _).trans jU (fun i h1 h2 => by omega); have y0 : U.cell? ⟨wr.heap.size, 0, none⟩ = some (.int .i64 ya) := sU.cell 0; have y1 : U.cell? ⟨wr.heap.size, 1, none⟩ = some (.int .i64 yn) := sU.cell 1; have p0 : U.cell? ⟨P, 0, none⟩ = some (.int .i64 xa) := (HP3.out.kp KU.out (fun h => h)).cell 0; have p1 : U.cell? ⟨P, 1, none⟩ = some (.int .i64 xn) := (HP3.out.kp KU.out (fun h => h)).cell 1; have SU := hid sU; have PU := hid (HP3.out.kp KU.out (fun h => h)); clear sU jU x0 x1 z3 z4))
          go_quiet (fail)
          have KV : Hid (Kp (fun _ => False) wr (U.drewN nq)) := KU.out.trans (drewN_kp _ _ _) (fun _ _ h => h)
          have SV := hid (SU.out.kp (drewN_kp (fun _ => False) U nq) (fun h => h))
          have PV := hid (PU.out.kp (drewN_kp (fun _ => False) U nq) (fun h => h))
          clear y0 y1 p0 p1 SU PU
          generalize U.drewN nq = V at *
          have y0 : V.cell? ⟨wr.heap.size, 0, none⟩ = some (.int .i64 ya) := SV.out.cell 0
          have y1 : V.cell? ⟨wr.heap.size, 1, none⟩ = some (.int .i64 yn) := SV.out.cell 1
          have p0 : V.cell? ⟨P, 0, none⟩ = some (.int .i64 xa) := PV.out.cell 0
          have p1 : V.cell? ⟨P, 1, none⟩ = some (.int .i64 xn) := PV.out.cell 1
          go_wp2_with (first | (refine wpList_store_r rfl _ _ rfl _ rfl (e := ⟨xa, xn⟩) (e' := ⟨min xa ya, max (xa + xn) (ya + yn) - min xa ya⟩) rfl PV.out ?_; intro Z sZ jZ; have SZ := hid sZ; have KZ := hid jZ; clear sZ jZ))
          go_roundw
          case rel => exact ⟨k + 1, min xa ya, max (xa + xn) (ya + yn) - min xa ya, out, by go_num, hlt, by rw [HT.out]; exact HI.out.meet HCD.out (by unfold Rn.e; dsimp only; omega) (by unfold Rn.e; dsimp only; omega), (HO.out.kp KV.out (fun _ _ h => h)).kp KZ.out (fun g e h => by have := HPG.out g e; omega), (HK.out.trans KV.out (fun _ _ h => h)).trans KZ.out (fun i hi e => by have := HP.out; omega), SZ.out, HPG.out⟩
          case measure => simp [intOf]; omega
    · obtain rfl : k = n := by omega
      have hol : out.length ≤ 5001 := by have := HI.out.len; rw [List.length_take] at this; omega
      rw [List.take_of_length_le (by have := HL.out; omega), List.drop_of_length_le (by have := HL.out; omega)] at HI
      by_cases hA : Ahd out ⟨xa, xn⟩
      · have HE := hid (HI.out.end1 HC.out.1 HX.out hA)
        by_cases h0 : out.length = 0
        · have HO2 : ∃ ao2 cap2, u5 = .slice ao2 0 cap2 := by
            obtain ⟨a2, c2, e2, _⟩ := HO.out.src
            exact ⟨a2, c2, by rw [e2, h0]⟩
          obtain ⟨ao2, cap2, rfl⟩ := HO2
          go_wp2_with fail
          go_quiet (fail)
          have KV : Hid (Kp (fun _ => False) wr (wr.drewN nq)) := drewN_kp _ _ _
          have PV := hid (HP3.out.kp KV.out (fun h => h))
          clear z3 z4
          generalize wr.drewN nq = V at *
          have p0 : V.cell? ⟨P, 0, none⟩ = some (.int .i64 xa) := PV.out.cell 0
          have p1 : V.cell? ⟨P, 1, none⟩ = some (.int .i64 xn) := PV.out.cell 1
          go_wp2_with (first | (at_builtin; refine wpList_append_rr rfl _ _ rfl P (.slice ao2 0 cap2) out rfl ((HO.out.kp KV.out (fun _ _ h => h)).kp ((Kp.refl (fun _ => False) V).alloc _) (fun _ _ h => h)) (some ⟨V.heap.size, 0, none⟩) 1 1 [⟨xa, xn⟩] rfl rfl (fun e => by cases e) (srcr_new1 V ⟨xa, xn⟩) (by (try simp only [List.length_append, List.length_singleton]); omega) (by have h9 : P < wr.heap.size := HPL.out; have h8 := KV.out.size; rw [World.size_alloc]; omega) ?_; intro va wa oa ka ba; have Oa := hid oa; have Ka : Hid (Kp (fun i => Value.ownBlock (.slice ao2 0 cap2) = some i) V wa) := ((Kp.refl _ _).alloc _).trans ka (fun _ _ h => h); have Ba := hid ba; clear oa ka ba))
          go_ret
          exact ⟨_, rfl, by rw [← HE.out]; exact Oa.out.base (by have h9 : P = w.heap.size := HP.out; omega), ((HK.out.trans KV.out (fun _ _ h => h)).trans Ka.out (fun i hi e => by have := HPG.out i e; have := HP.out; omega))⟩
        · skip
          obtain ⟨m, hm⟩ : ∃ m, out.length = m + 1 := ⟨out.length - 1, by omega⟩
          have hla : (out.getD m zRn).a < xa := by
            rcases hA with h | h
            · omega
            · rw [hm] at h; exact h
          have HO2 : ∃ ao2 cap2, u5 = .slice ao2 (m + 1) cap2 ∧ Srcr wr ao2 out := by
            obtain ⟨a2, c2, e2, s2, _⟩ := HO.out.src
            exact ⟨a2, c2, by rw [e2, hm], s2⟩
          obtain ⟨ao2, cap2, rfl, hS2⟩ := HO2
          have HS2 := hid hS2
          clear hS2
          go_wp2_with fail
          obtain ⟨gb2, off2, rfl, hgb2, x20, x21⟩ := (HS2.out).at (i := m) (by omega)
          generalize (out.getD m zRn).a = la at *
          have hne : ((m : Int) + 1 == 0) = false := by rw [beq_eq_false_iff_ne]; omega
          have hw9 : IntKind.i64.wrap ((m : Int) + 1 - 1) = (m : Int) := by rw [IntKind.wrap_i64]; omega
          clear x21 hgb2
          have hlb : decide (la < xa) = true := by simpa using hla
          go_quiet (fail)
          have KV : Hid (Kp (fun _ => False) wr (wr.drewN nq)) := drewN_kp _ _ _
          have PV := hid (HP3.out.kp KV.out (fun h => h))
          clear z3 z4
          generalize wr.drewN nq = V at *
          have p0 : V.cell? ⟨P, 0, none⟩ = some (.int .i64 xa) := PV.out.cell 0
          have p1 : V.cell? ⟨P, 1, none⟩ = some (.int .i64 xn) := PV.out.cell 1
          go_wp2_with (first | (at_builtin; refine wpList_append_rr rfl _ _ rfl P (.slice (some ⟨gb2, off2, none⟩) (m + 1) cap2) out rfl ((HO.out.kp KV.out (fun _ _ h => h)).kp ((Kp.refl (fun _ => False) V).alloc _) (fun _ _ h => h)) (some ⟨V.heap.size, 0, none⟩) 1 1 [⟨xa, xn⟩] rfl rfl (fun e => by cases e) (srcr_new1 V ⟨xa, xn⟩) (by (try simp only [List.length_append, List.length_singleton]); omega) (by have h9 : P < wr.heap.size := HPL.out; have h8 := KV.out.size; rw [World.size_alloc]; omega) ?_; intro va wa oa ka ba; have Oa := hid oa; have Ka : Hid (Kp (fun i => Value.ownBlock (.slice (some ⟨gb2, off2, none⟩) (m + 1) cap2) = some i) V wa) := ((Kp.refl _ _).alloc _).trans ka (fun _ _ h => h); have Ba := hid ba; clear oa ka ba))
          go_ret
          exact ⟨_, rfl, by rw [← HE.out]; exact Oa.out.base (by have h9 : P = w.heap.size := HP.out; omega), ((HK.out.trans KV.out (fun _ _ h => h)).trans Ka.out (fun i hi e => by have := HPG.out i e; have := HP.out; omega))⟩
      · have HE := hid (HI.out.end2 HC.out.1 HX.out hA)
        have h0 : out.length ≠ 0 := fun h => hA (Or.inl h)
        obtain ⟨m, hm⟩ : ∃ m, out.length = m + 1 := ⟨out.length - 1, by omega⟩
        have hla : ¬ (out.getD m zRn).a < xa := by
          intro h
          exact hA (Or.inr (by rw [hm]; exact h))
        have HO2 : ∃ ao2 cap2, u5 = .slice ao2 (m + 1) cap2 ∧ Srcr wr ao2 out := by
          obtain ⟨a2, c2, e2, s2, _⟩ := HO.out.src
          exact ⟨a2, c2, by rw [e2, hm], s2⟩
        obtain ⟨ao2, cap2, rfl, hS2⟩ := HO2
        have HS2 := hid hS2
        clear hS2
        go_wp2_with fail
        obtain ⟨gb2, off2, rfl, hgb2, x20, x21⟩ := (HS2.out).at (i := m) (by omega)
        generalize (out.getD m zRn).a = la at *
        have hne : ((m : Int) + 1 == 0) = false := by rw [beq_eq_false_iff_ne]; omega
        have hw9 : IntKind.i64.wrap ((m : Int) + 1 - 1) = (m : Int) := by rw [IntKind.wrap_i64]; omega
        clear x21 hgb2
        have hlb : decide (la < xa) = false := by simpa using hla
        go_quiet (fail)
        have KV : Hid (Kp (fun _ => False) wr (wr.drewN nq)) := drewN_kp _ _ _
        have PV := hid (HP3.out.kp KV.out (fun h => h))
        clear z3 z4
        generalize wr.drewN nq = V at *
        have p0 : V.cell? ⟨P, 0, none⟩ = some (.int .i64 xa) := PV.out.cell 0
        have p1 : V.cell? ⟨P, 1, none⟩ = some (.int .i64 xn) := PV.out.cell 1
        go_wp2_with fail
        go_ret
        exact ⟨_, rfl, by rw [← HE.out]; exact (HO.out.kp KV.out (fun _ _ h => h)).base (by have h9 : P = w.heap.size := HP.out; omega), HK.out.trans KV.out (fun _ _ h => h)⟩
end Go.Proofs.Ytgfondgejimkkaa

namespace Go.Proofs.Ytgfondgejimkkaa
open Go.RowKit
set_option linter.unusedVariables false
set_option linter.unusedSimpArgs false
/-- A slice that tells these runs, not in the blocks G. -/
def Vr (G : Nat → Prop) (w : World) (v : Value) (l : List Rn) : Prop := ∃ ao cap, v = .slice ao l.length cap ∧ Srcr w ao l ∧ (∀ b off, ao = some ⟨b, off, none⟩ → ¬ G b ∧ ∃ cur, St 38 w b cur) ∧ (ao = none → cap = 0)
theorem Vr.kp {G : Nat → Prop} {F : Nat → Prop} {w w' : World} {v : Value} {l : List Rn} (h : Vr G w v l) (k : Kp F w w') (hf : ∀ i, ¬ G i → ¬ F i) : Vr G w' v l := by
  obtain ⟨ao, cap, h1, h2, h3, h4⟩ := h
  exact ⟨ao, cap, h1, h2.kp k (fun b off e _ => hf b (h3 b off e).1), fun b off e => ⟨(h3 b off e).1, (h3 b off e).2.choose, (h3 b off e).2.choose_spec.kp k (hf b (h3 b off e).1)⟩, h4⟩
theorem Vr.own {G : Nat → Prop} {base : Nat} {w : World} {v : Value} {l : List Rn} (o : Ownr w base v l) (hq : ∀ i, G i → i < base) : Vr G w v l := by
  obtain ⟨ao, cap, rfl, s, hc1, hc2, hz⟩ := o.src
  refine ⟨ao, cap, rfl, s, fun b off e => ?_, hz⟩
  have h5 := o.ty b off e
  exact ⟨fun g => by have := hq b g; omega, h5.2⟩
theorem RL.store {G : Nat → Prop} {q : Nat} {w : World} {l M : List Rn} {v : Value} (h : RL q w l) (hv : Vr G w v M) (hc : Can M) (hl : M.length ≤ 4096) : RL q (w.setCell ⟨q, 0, none⟩ v) M := by
  obtain ⟨a0, c0, h1, h2, h3, h4⟩ := h.mem
  obtain ⟨ao, cap, rfl, s, hb, hz⟩ := hv
  have k := kp_setCell w q 0 (.slice ao M.length cap) (fun i => i = q) rfl
  have hn : ∀ b cur, St 38 w b cur → ¬ b = q := fun b cur s e => by subst e; exact apart_types s h1 (by decide)
  have hb2 : Tb w ao := fun b off e => (hb b off e).2
  exact ⟨⟨ao, cap, h1.set 0 _, s.kp k (fun b off e _ => by obtain ⟨cur, hc⟩ := hb2 b off e; exact hn b cur hc), hb2.kp k hn, hz⟩, hc, hl⟩
theorem tog_step {l M : List Rn} {k : Nat} (hk : k < M.length) (hl : ∀ x ∈ l, Mayr x) (hM : ∀ x ∈ M, Mayr x) : tog (tog (l ++ M.take k) ++ [M.getD k zRn]) = tog (l ++ M.take (k + 1)) := by
  have h1 : ∀ x ∈ l ++ M.take k, Mayr x := may_app hl (fun x hx => hM x (List.mem_of_mem_take hx))
  have h2 : ∀ x ∈ l ++ M.take (k + 1), Mayr x := may_app hl (fun x hx => hM x (List.mem_of_mem_take hx))
  have h3 : ∀ x ∈ [M.getD k zRn], Mayr x := fun x hx => by simp only [List.mem_singleton] at hx; subst hx; exact hM _ (gd_mem hk)
  refine tog_is (may_app (tog_may h1) h3) (tog_ok h2).1 (fun p => ?_)
  rw [(tog_ok h2).2 p, take_snocr hk, ← List.append_assoc, bt_append, bt_append (A := l ++ M.take k), (tog_ok h1).2 p]
theorem tog_zero {l : List Rn} (h : Can l) : tog (l ++ []) = l := by rw [List.append_nil]; exact tog_is h.1 h (fun _ => Iff.rfl)
set_option maxRecDepth 100000 in
set_option maxHeartbeats 16000000 in
/-- Where one may not be. -/
theorem rput_bad (w : World) (q : Nat) (ao : Option Addr) (n cap : Nat) (M : List Rn) (hM : M.length = n) (hn : n ≤ 100) (h6 : ∀ x ∈ M, x.i6) (hs : Srcr w ao M) (hb : ∃ x ∈ M, ¬ Mayr x) :
    Calls Try.prog 9 #[.pointer (some ⟨q, 0, none⟩), .slice ao n cap] w fun e w' => e = .returned (.tuple #[.int .i64 0, .int .i64 2]) ∧ Kp (fun _ => False) w w' := by
  have HMN := hid hM
  have H6 := hid h6
  have HS := hid hs
  have HB := hid hb
  have HMY := hid rmay_any
  clear hM h6 hs hb
  go_enter Try.func9, Try.ntmps9
  go_wp2_with fail
  go_loopw [6] (fun i wr => ∃ (k : Nat), i = .int .i64 (k : Int) ∧ k ≤ n ∧ Hid (Kp (fun _ => False) w wr) ∧ Hid (∀ j, j < k → Mayr (M.getD j zRn))) (fun i _ => n - (intOf i).toNat)
  case atStart => exact ⟨0, rfl, Nat.zero_le _, Kp.refl _ _, fun j hj => by omega⟩
  case round =>
    obtain ⟨k, rfl, hk, HK, HE⟩ := hrel
    by_cases hlt : k < n
    · have hkl : k < M.length := by have := HMN.out; omega
      obtain ⟨gb, off, rfl, _, x0, x1⟩ := (HS.out.kp HK.out (fun _ _ _ _ h => h)).at (i := k) hkl
      have HYM : Hid (∀ U, Calls Try.prog 21 #[.agg #[.int .i64 (M.getD k zRn).a, .int .i64 (M.getD k zRn).n]] U fun e w' => e = .returned (.bool (mayb (M.getD k zRn))) ∧ Kp (fun _ => False) U w') := fun U => HMY.out (M.getD k zRn) U (H6.out _ (gd_mem hkl))
      have HEN : Hid (Mayr (M.getD k zRn) → ∀ j, j < k + 1 → Mayr (M.getD j zRn)) := fun h j hj => by
        by_cases hj2 : j < k
        · exact HE.out j hj2
        · obtain rfl : j = k := by omega
          exact h
      generalize M.getD k zRn = y at *
      by_cases hm : mayb y = true
      · have HEM := hid (HEN.out ((mayb_iff y).1 hm))
        rw [hm] at HYM
        clear HEN hm
        generalize y.a = ya at *
        generalize y.n = yn at *
        go_wp2_with (first | (go_at_call 21; refine (HYM.out _).mono ?_; rintro e w1 ⟨rfl, k1⟩; have K1 := hid (HK.out.trans k1 (fun _ _ h => h)); clear k1))
        go_roundw
        case rel => exact ⟨k + 1, by go_num, hlt, K1, HEM⟩
        case measure => simp [intOf]; omega
      · have hmf : mayb y = false := by simpa using hm
        rw [hmf] at HYM
        clear HEN hm hmf
        generalize y.a = ya at *
        generalize y.n = yn at *
        go_wp2_with (first | (go_at_call 21; refine (HYM.out _).mono ?_; rintro e w1 ⟨rfl, k1⟩; have K1 := hid (HK.out.trans k1 (fun _ _ h => h)); clear k1))
        go_ret2
        exact ⟨rfl, K1.out⟩
    · obtain ⟨x, hx, hx2⟩ := HB.out
      obtain ⟨j, hj, e⟩ := List.getElem_of_mem hx
      exact absurd (by rw [← e, ← gd hj]; exact HE.out j (by have := HMN.out; omega)) hx2
end Go.Proofs.Ytgfondgejimkkaa

namespace Go.Proofs.Ytgfondgejimkkaa
open Go.RowKit
set_option linter.unusedVariables false
set_option linter.unusedSimpArgs false
set_option maxRecDepth 100000 in
set_option maxHeartbeats 16000000 in
theorem rput_ok (w : World) (q : Nat) (l : List Rn) (ao : Option Addr) (n cap : Nat) (M : List Rn) (h : RL q w l) (hM : M.length = n) (hn : n ≤ 100) (hs : Srcr w ao M) (hm : ∀ x ∈ M, Mayr x) :
    Calls Try.prog 9 #[.pointer (some ⟨q, 0, none⟩), .slice ao n cap] w fun e w' =>
      (4096 < (tog (l ++ M)).length ∧ e = .returned (.tuple #[.int .i64 0, .int .i64 6]) ∧ Kp (fun _ => False) w w') ∨
      ((tog (l ++ M)).length ≤ 4096 ∧ e = .returned (.tuple #[.int .i64 (sz (tog (l ++ M)) - sz l), .int .i64 0]) ∧ RL q w' (tog (l ++ M)) ∧ Kp (fun i => i = q) w w') := by
  have HR := hid h
  have HMN := hid hM
  have HS := hid hs
  have HMM := hid hm
  have HC := hid h.can
  have HL4 := hid h.len
  have HMY := hid rmay_any
  have HWI := hid rwith_any
  have HBYA := hid rbytes_any
  obtain ⟨a0, c0, hq, hs0, hb0, hz0⟩ := h.mem
  have HQ := hid hq
  have HV0 : Hid (Vr (fun _ => False) w (.slice a0 l.length c0) l) := ⟨a0, c0, rfl, hs0, fun b off e => ⟨fun h => h, hb0 b off e⟩, hz0⟩
  have HS0 := hid hs0
  clear hM hs hm h hq hs0 hb0 hz0
  obtain ⟨n0, hn0⟩ : ∃ n0, n0 = l.length := ⟨_, rfl⟩
  rw [← hn0] at HQ HV0 HL4
  have HN0 := hid hn0
  clear hn0
  go_enter Try.func9, Try.ntmps9
  go_wp2_with fail
  go_loopw [6] (fun i wr => ∃ (k : Nat), i = .int .i64 (k : Int) ∧ k ≤ n ∧ Hid (Kp (fun _ => False) w wr)) (fun i _ => n - (intOf i).toNat)
  case atStart => exact ⟨0, rfl, Nat.zero_le _, Kp.refl _ _⟩
  case round =>
    obtain ⟨k, rfl, hk, HK⟩ := hrel
    by_cases hlt : k < n
    · have hkl : k < M.length := by have := HMN.out; omega
      obtain ⟨gb, off, rfl, _, x0, x1⟩ := (HS.out.kp HK.out (fun _ _ _ _ h => h)).at (i := k) hkl
      have hym := HMM.out _ (gd_mem hkl)
      have HYM : Hid (∀ U, Calls Try.prog 21 #[.agg #[.int .i64 (M.getD k zRn).a, .int .i64 (M.getD k zRn).n]] U fun e w' => e = .returned (.bool true) ∧ Kp (fun _ => False) U w') := fun U => by
        have := HMY.out (M.getD k zRn) U (by unfold Mayr Rn.e at hym; unfold Rn.i6; omega)
        rw [(mayb_iff _).2 hym] at this
        exact this
      clear hym
      generalize (M.getD k zRn).a = ya at *
      generalize (M.getD k zRn).n = yn at *
      go_wp2_with (first | (go_at_call 21; refine (HYM.out _).mono ?_; rintro e w1 ⟨rfl, k1⟩; have K1 := hid (HK.out.trans k1 (fun _ _ h => h)); clear k1))
      go_roundw
      case rel => exact ⟨k + 1, by go_num, hlt, K1⟩
      case measure => simp [intOf]; omega
    · have zq : wr.cell? ⟨q, 0, none⟩ = some (.slice a0 n0 c0) := (HQ.out.kp HK.out (fun h => h)).cell 0
      have HTL : Hid (∀ j, j ≤ n → (tog (l ++ M.take j)).length ≤ 4196) := fun j hj => by
        have h1 := tog_len (l := l ++ M.take j) (may_app HC.out.1 (fun x hx => HMM.out x (List.mem_of_mem_take hx)))
        rw [List.length_append, List.length_take] at h1
        have h2 : n0 ≤ 4096 := HL4.out
        have h3 : n0 = l.length := HN0.out
        omega
      go_wp2_with fail
      go_loopw [7, 8] (fun v i wz => ∃ (j : Nat), i = .int .i64 (j : Int) ∧ j ≤ n ∧ Hid (Kp (fun _ => False) w wz) ∧ Hid (Vr (fun _ => False) wz v (tog (l ++ M.take j)))) (fun _ i _ => n - (intOf i).toNat)
      case atStart => exact ⟨0, rfl, Nat.zero_le _, HK, by rw [List.take_zero, tog_zero HC.out]; exact HV0.out.kp HK.out (fun _ _ h => h)⟩
      case round =>
        obtain ⟨j, rfl, hj, HK2, HV⟩ := hrel
        by_cases hlj : j < n
        · have hkl : j < M.length := by have := HMN.out; omega
          obtain ⟨gb, off, rfl, _, x0, x1⟩ := (HS.out.kp HK2.out (fun _ _ _ _ h => h)).at (i := j) hkl
          have HTS := hid (tog_step hkl HC.out.1 HMM.out)
          have hym := HMM.out _ (gd_mem hkl)
          obtain ⟨av, cv, rfl, sv, bv, zv⟩ := HV.out
          have HW2 := hid (HWI.out wr av (tog (l ++ M.take j)).length cv (tog (l ++ M.take j)) (M.getD j zRn) rfl (by have := HTL.out j hj; omega) hym (tog_ok (may_app HC.out.1 (fun x hx => HMM.out x (List.mem_of_mem_take hx)))).1 sv)
          rw [HTS.out] at HW2
          have HQL : Hid (∀ i : Nat, False → i < wr.heap.size) := fun i hi => hi.elim
          clear hym sv bv zv HV HTS
          generalize (tog (l ++ M.take j)).length = tl at *
          generalize (M.getD j zRn).a = ya at *
          generalize (M.getD j zRn).n = yn at *
          go_wp2_with (first | (go_at_call 30; refine HW2.out.mono ?_; rintro e w1 ⟨v1, rfl, o1, k1⟩; have K1 := hid (HK2.out.trans k1 (fun _ _ h => h)); have V1 := hid (Vr.own o1 HQL.out); clear k1 o1))
          go_roundw
          case rel => exact ⟨j + 1, by go_num, hlj, K1, V1⟩
          case measure => simp [intOf]; omega
        · obtain rfl : j = n := by omega
          have HTJ := HTL.out j (by omega)
          rw [List.take_of_length_le (by have := HMN.out; omega)] at HV HTJ
          have HCT := hid (tog_ok (may_app HC.out.1 HMM.out)).1
          obtain ⟨T, hT⟩ : ∃ T, T = tog (l ++ M) := ⟨_, rfl⟩
          rw [← hT] at HV HTJ HCT
          have HT := hid hT
          clear hT
          have HV1 := HV.out
          obtain ⟨av, cv, rfl, sv, bv, zv⟩ := HV1
          have SV := hid sv
          clear sv bv zv
          have z1 := ap_sz HC.out.ap
          have z2 := ap_sz HCT.out.ap
          have hwz : IntKind.i64.wrap (sz T - sz l) = sz T - sz l := by rw [IntKind.wrap_i64]; omega
          obtain ⟨m, hm⟩ : ∃ m, m = T.length := ⟨_, rfl⟩
          have HBT : Hid (∀ U, Kp (fun _ => False) wr U → Calls Try.prog 17 #[.slice av m cv] U fun e w' => e = .returned (.int .i64 (sz T)) ∧ Kp (fun _ => False) U w') := fun U k => HBYA.out U av m cv T hm.symm (by omega) HCT.out (SV.out.kp k (fun _ _ _ _ h => h))
          have HBL : Hid (∀ U, Kp (fun _ => False) w U → Calls Try.prog 17 #[.slice a0 n0 c0] U fun e w' => e = .returned (.int .i64 (sz l)) ∧ Kp (fun _ => False) U w') := fun U k => HBYA.out U a0 n0 c0 l HN0.out.symm (by have h2 : n0 ≤ 4096 := HL4.out; omega) HC.out (HS0.out.kp k (fun _ _ _ _ h => h))
          rw [← hm] at HTJ ⊢
          have HMT := hid hm
          obtain ⟨s2, hs2⟩ : ∃ s, s = sz T := ⟨_, rfl⟩
          obtain ⟨s1, hs1⟩ : ∃ s, s = sz l := ⟨_, rfl⟩
          rw [← hs2, ← hs1] at hwz
          rw [← hs2] at HBT
          rw [← hs1] at HBL
          have HS2 := hid hs2
          have HS1 := hid hs1
          clear hm z1 z2 hs1 hs2
          by_cases hgt : 4096 < m
          · have hg2 : (4096 : Int) < (m : Int) := by omega
            go_wp2_with fail
            go_ret2
            rw [← HT.out, ← HMT.out]
            exact Or.inl ⟨hgt, rfl, HK2.out⟩
          · have hg2 : ¬ (4096 : Int) < (m : Int) := by omega
            go_wp2_with fail
            have HSC : Hid (∀ U, Kp (fun _ => False) wr U → U.cell? ⟨q, 0, none⟩ = some (.slice a0 n0 c0)) := fun U k => (HQ.out.kp (HK2.out.trans k (fun _ _ h => h)) (fun h => h)).cell 0
            have cc0 := HSC.out wr (Kp.refl _ _)
            have KD : Hid (Kp (fun _ => False) wr wr.drew) := (Kp.refl (fun _ => False) wr).drew
            go_region_held3 (fun U : World => U.cell? ⟨q, 0, none⟩ = some (.slice a0 n0 c0)) (first | exact cc0 | exact cc2 | exact cc3) (first | (go_at_call_of 17 (Value.slice av m cv); refine (HBT.out wr.drew KD.out).mono ?_; rintro e w2 ⟨rfl, k2⟩; have K2 := hid (KD.out.trans k2 (fun _ _ h => h)); have cc2 := HSC.out w2 K2.out; clear k2) | (go_at_call_of 17 (Value.slice a0 n0 c0); refine (HBL.out w2 (HK2.out.trans K2.out (fun _ _ h => h))).mono ?_; rintro e w3 ⟨rfl, k3⟩; have K3 := hid (K2.out.trans k3 (fun _ _ h => h)); have cc3 := HSC.out w3 K3.out; clear k3))
            have fq : w3.frozen? ⟨q, 0, none⟩ = false := (HQ.out.kp (HK2.out.trans K3.out (fun _ _ h => h)) (fun h => h)).frozen 0
            go_wp2_with fail
            go_ret2
            rw [← HT.out, ← HMT.out, ← HS2.out, ← HS1.out]
            have KA := HK2.out.trans K3.out (fun _ _ h => h)
            have hv3 := HV.out.kp K3.out (fun _ _ h => h)
            rw [← HMT.out] at hv3
            exact Or.inr ⟨by omega, rfl, RL.store (HR.out.kp KA (fun _ h => h)) hv3 HCT.out (by have := HMT.out; omega), (KA.mono (fun i _ h => h.elim)).trans (kp_setCell w3 q 0 _ (fun i => i = q) rfl) (fun _ _ h => h)⟩
end Go.Proofs.Ytgfondgejimkkaa
