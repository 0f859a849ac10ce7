import Derived.Test.YtnccklbnncaeoaaGreatJbq
import Derived.Test.YtnccklbnncaeoaaGreatJbr
import Derived.WalkKit
import Derived.ProofKit
import Derived.OpenShut
import Derived.ShutString
import Derived.ChangeOld
import Derived.Below
import Derived.Deep.Slices
/- Calls that came in: a file's size, a cache's bits and room, steps. -/
namespace Go.Proofs.YtnccklbnncaeoaaGreat
open Go.ChangeShapes Go.WideShapes Go.ChangeAt Go.RowKit
set_option linter.unusedVariables false

theorem choose_ltC {α : Type} (z : α) {n : Nat} {p : Nat → α → Prop} (h : ∀ i, i < n → ∃ q, p i q) : ∃ f : Nat → α, ∀ i, i < n → p i (f i) :=
  ⟨fun i => if hi : i < n then (h i hi).choose else z, fun i hi => by simp only [hi, dite_true]; exact (h i hi).choose_spec⟩
theorem src_ltC {w : World} {ao : Option Addr} {xs : List Int} (h : Src .u8 w ao xs) (hx : 0 < xs.length) (r off : Nat) (e : ao = some ⟨r, off, none⟩) : r < w.heap.size := by
  obtain ⟨b, o, e2, hc⟩ := h hx
  rw [e] at e2
  cases e2
  exact block_lt_of_cell (hc 0 hx)
set_option maxRecDepth 100000 in
theorem open_csteps {H : Type} {enc : TypeId × Value → H} {W : World} {spare : Nat → Bool} {held : Bool} {fuel : Nat} {a0 : Option Addr} {len0 cap0 : Nat} {x : DataW H × List MemPlace} (hf : DataW.trod enc Tryz.prog W 0 spare held fuel 23 [.slice a0 len0 cap0] = some x) : ∃ ts, len0 = ts.length ∧ CSrc W a0 ts ∧ ∀ t ∈ ts, Swc W t := by
  rcases Go.Deep.open_slice Tryz.underlying23 hf with ⟨hcs, _⟩ | ⟨x, l, c, m, n, D, Pl, hcs, _, hl, hm, hmm, _, hx⟩
  · simp at hcs
    obtain ⟨rfl, rfl, rfl⟩ := hcs
    exact ⟨[], rfl, CSrc.nil _ _, fun t ht => by simp at ht⟩
  · simp at hcs
    obtain ⟨rfl, rfl, rfl⟩ := hcs
    have hlm : len0 ≤ m := by rw [hmm]; split <;> omega
    have each : ∀ i, i < len0 → ∃ t : Stc, (∀ j, j < 6 → W.cell? (x.add (i * 6 + j)) = t.cells[j]?) ∧ Swc W t := by
      intro i hi
      obtain ⟨cs', g1, g2⟩ := hx i (by omega)
      rw [show Tryz.prog.cellsOf 49 = 6 by kernel_rfl] at g1
      obtain ⟨_, hlen, hcell⟩ := World.cells?_some g1
      obtain ⟨xs, k, hk, hxy, _, hxl, hfld⟩ := DataW.trod_struct Tryz.underlying49 g2
      match xs, hxl, cs', hlen with
      | [y0, y1, y2, y3, y4, y5], _, [u0, u1, u2, u3, u4, u5], _ =>
        have f0 := hfld 0 _ rfl
        have f1 := hfld 1 _ rfl
        have f2 := hfld 2 _ rfl
        have f3 := hfld 3 _ rfl
        have f4 := hfld 4 _ rfl
        have f5 := hfld 5 _ rfl
        have o2 : Tryz.prog.cellsOf 2 = 1 := by kernel_rfl
        have o3 : Tryz.prog.cellsOf 3 = 1 := by kernel_rfl
        have o47 : Tryz.prog.cellsOf 47 = 1 := by kernel_rfl
        simp [o2, o3, o47] at f0 f1 f2 f3 f4 f5
        obtain ⟨n0, e0, _, q0⟩ := DataW.trod_int Tryz.underlying3 f0
        obtain ⟨n1, e1, _, q1⟩ := DataW.trod_int Tryz.underlying3 f1
        obtain ⟨n2, e2, _, q2⟩ := DataW.trod_int Tryz.underlying3 f2
        obtain ⟨n3, e3, _, q3⟩ := DataW.trod_int Tryz.underlying2 f3
        obtain ⟨n4, e4, _, q4⟩ := DataW.trod_int Tryz.underlying2 f4
        injection e0 with e0
        injection e1 with e1
        injection e2 with e2
        injection e3 with e3
        injection e4 with e4
        obtain ⟨ao, bl, bc, zs, rfl, hzl, hlc, hsr, hcm, hlt⟩ : ∃ ao bl bc zs, u5 = .slice ao bl bc ∧ (zs : List Int).length = bl ∧ bl ≤ bc ∧ Src .u8 W ao zs ∧ bc ≤ maxLen ∧ (∀ b off, ao = some ⟨b, off, none⟩ → 0 < bl → b < W.heap.size) := by
          rcases open_ints Tryz.underlying47 Tryz.underlying5 (by kernel_rfl) f5 with ⟨h1, _⟩ | ⟨x4, l4, c4, zs, h1, _, h2, h3, h4, _, h5, _⟩
          · injection h1 with h1
            exact ⟨none, 0, 0, [], h1, rfl, Nat.le_refl _, fun h => absurd h (by simp), by unfold maxLen; omega, fun _ _ e => by cases e⟩
          · injection h1 with h1
            have hzl : l4 ≤ zs.length := by rw [h4]; split <;> omega
            have hlen4 : (zs.take l4).length = l4 := by rw [List.length_take]; omega
            have hsr : Src .u8 W (some x4) (zs.take l4) := by
              intro hp
              obtain ⟨b, off, spot⟩ := x4
              have hc := h5 0 (by omega)
              have hspot : spot = none := by simpa [Addr.add] using World.cell?_spot hc
              subst hspot
              refine ⟨b, off, rfl, fun i hi => ?_⟩
              have hi2 := h5 i (by omega)
              rw [add_o] at hi2
              rw [hi2]
              have hi3 : i < l4 := by omega
              simp [List.getD, hi3]
            exact ⟨some x4, l4, c4, zs.take l4, h1, hlen4, h2, hsr, h3, fun b off e hp => src_ltC hsr (by omega) b off e⟩
        subst e0 e1 e2 e3 e4
        refine ⟨⟨n0, n1, n2, n3, n4, ao, bl, bc⟩, fun j hj => ?_, ⟨⟨zs, hzl, hsr⟩, hlc, hcm, hlt, bounds_i64 q1, bounds_i64 q2, bounds_i64 q3, bounds_i64 q4⟩⟩
        have c0 := hcell j (by omega)
        rw [Go.Deep.add_add] at c0
        rw [c0]
        rfl
    obtain ⟨f, hf⟩ := choose_ltC zsc each
    refine ⟨(List.range len0).map f, by simp, ?_, fun t ht => ?_⟩
    · intro hp
      simp at hp
      obtain ⟨b, off, spot⟩ := x
      have hc := (hf 0 hp).1 0 (by omega)
      have hc2 : W.cell? (Addr.add ⟨b, off, spot⟩ (0 * 6 + 0)) = some (.int .i64 (f 0).kind) := hc
      have hspot : spot = none := by simpa [Addr.add] using World.cell?_spot hc2
      subst hspot
      have hbl : b < W.heap.size := by
        rw [add_o] at hc2
        exact block_lt_of_cell hc2
      refine ⟨b, off, rfl, hbl, fun i hi j hj => ?_⟩
      simp at hi
      have g0 := (hf i hi).1 j hj
      rw [add_o, ← Nat.add_assoc] at g0
      have e : ((List.range len0).map f).getD i zsc = f i := by simp [List.getD, hi]
      rw [e]
      exact g0
    · simp at ht
      obtain ⟨i, hi, rfl⟩ := ht
      exact (hf i hi).2
set_option maxRecDepth 100000 in
theorem open_calls {H : Type} {enc : TypeId × Value → H} {W : World} {spare : Nat → Bool} {held : Bool} {fuel : Nat} {cs : List Value} {x : DataW H × List MemPlace} (hf : DataW.trod enc Tryz.prog W 0 spare held fuel 66 cs = some x) : ∃ sz bt rm ao N cap ts, cs = [.int .i64 sz, .int .i64 bt, .int .i64 rm, .slice ao N cap] ∧ N = List.length ts ∧ CSrc W ao ts ∧ ∀ t ∈ ts, Swc W t := by
  obtain ⟨xs, k, hk, hxy, hcl, hxl, hfld⟩ := DataW.trod_struct Tryz.underlying66 hf
  rw [show Tryz.prog.cellsOf 66 = 4 by kernel_rfl] at hcl
  match xs, hxl, cs, hcl with
  | [y0, y1, y2, y3], _, [u0, u1, u2, u3], _ =>
    have f0 := hfld 0 _ rfl
    have f1 := hfld 1 _ rfl
    have f2 := hfld 2 _ rfl
    have f3 := hfld 3 _ rfl
    have o2 : Tryz.prog.cellsOf 2 = 1 := by kernel_rfl
    have o3 : Tryz.prog.cellsOf 3 = 1 := by kernel_rfl
    have o23 : Tryz.prog.cellsOf 23 = 1 := by kernel_rfl
    simp [o2, o3, o23] at f0 f1 f2 f3
    obtain ⟨n0, e0, _, q0⟩ := DataW.trod_int Tryz.underlying2 f0
    obtain ⟨n1, e1, _, q1⟩ := DataW.trod_int Tryz.underlying3 f1
    obtain ⟨n2, e2, _, q2⟩ := DataW.trod_int Tryz.underlying3 f2
    injection e0 with e0
    injection e1 with e1
    injection e2 with e2
    obtain ⟨a3, l3, c3, rfl⟩ : ∃ a l c, u3 = .slice a l c := by
      rcases Go.Deep.open_slice Tryz.underlying23 f3 with ⟨hcs, _⟩ | ⟨x, l, c, m, n, D, Pl, hcs, _⟩
      · simp at hcs; exact ⟨_, _, _, hcs⟩
      · simp at hcs; exact ⟨_, _, _, hcs⟩
    obtain ⟨ts, h1, h2, h3⟩ := open_csteps f3
    subst e0 e1 e2
    exact ⟨_, _, _, _, _, _, ts, rfl, h1, h2, h3⟩
end Go.Proofs.YtnccklbnncaeoaaGreat
/- CachePlain: the walk. -/
namespace Go.Proofs.YtnccklbnncaeoaaGreat
open Go.RowKit
set_option linter.unusedVariables false
set_option linter.unusedSimpArgs false
set_option linter.constructorNameAsVariable false
set_option maxRecDepth 100000 in
set_option maxHeartbeats 16000000 in
theorem plain_any (sz bt rm : Int) (ts : List Stc) (ao : Option Addr) (n cap : Nat) (w : World) (hN : n = ts.length) (hS : CSrc w ao ts) (hw : ∀ t ∈ ts, Swc w t) :
    Calls Tryz.prog 5 #[.agg #[.int .i64 sz, .int .i64 bt, .int .i64 rm, .slice ao n cap]] w fun e w' => e = .returned (.bool true) ∧ Kp (fun _ => False) w w' := by
  have HN := hid hN
  have HS := hid hS
  have HW := hid hw
  have HNU := hid num_any
  have kbx : Kp (fun _ => False) w (w.alloc (.cells #[.int .i64 sz, .int .i64 bt, .int .i64 rm, .slice ao n cap] 66)) := (Kp.refl _ _).alloc _
  have s66 := St.new 66 w #[.int .i64 sz, .int .i64 bt, .int .i64 rm, .slice ao n cap]
  have HKX := hid kbx
  have H66 := hid s66
  clear hN hS hw kbx s66
  go_enter Tryz.func5, Tryz.ntmps5
  go_wp2_with fail
  obtain ⟨X, hX⟩ : ∃ X, w.heap.size = X := ⟨_, rfl⟩
  obtain ⟨w1, hw1⟩ : ∃ w1, w.alloc (.cells #[.int .i64 sz, .int .i64 bt, .int .i64 rm, .slice ao n cap] 66) = w1 := ⟨_, rfl⟩
  rw [hw1] at HKX H66
  rw [hX] at H66
  rw [hw1, hX]
  clear hw1 hX
  have hcs := HS.out.kp HKX.out (fun _ _ _ _ h => h)
  refine (fits_any sz bt rm ts ao n cap w1 HN.out hcs).mono ?_
  rintro e w2 ⟨fb, rfl, hfit, k2⟩
  replace HKX := hid (HKX.out.trans k2 (fun _ _ h => h))
  replace H66 := hid (H66.out.kp k2 (fun h => h))
  clear hcs k2
  cases fb with
  | false =>
    clear hfit
    have HWO := hid (works_any w2)
    go_wp2_with (first | (go_at_call 10; refine HWO.out.mono ?_; rintro _ w3 ⟨rfl, k3⟩))
    go_ret
    exact ⟨rfl, HKX.out.trans k3 (fun _ _ h => h)⟩
  | true =>
    obtain ⟨f1, f2, f3, f4, f5, f6, f7, f8⟩ := hfit rfl
    clear hfit
    obtain ⟨sz, rfl⟩ : ∃ k : Nat, sz = (k : Int) := ⟨sz.toNat, by omega⟩
    obtain ⟨bits, rfl⟩ : ∃ k : Nat, bt = (k : Int) := ⟨bt.toNat, by omega⟩
    obtain ⟨room, rfl⟩ : ∃ k : Nat, rm = (k : Int) := ⟨rm.toNat, by omega⟩
    have HBB : Hid (9 ≤ bits ∧ bits ≤ 16) := by show _ ∧ _; omega
    have HRM : Hid (1 ≤ room ∧ room ≤ 20) := by show _ ∧ _; omega
    have HN60 : Hid (n ≤ 60) := f7
    have HT8 := hid f8
    have hp0 := pow_le bits ⟨by omega, by omega⟩
    have hp12 : 2 ^ bits ≤ 4096 := by
      have : 2 ^ bits ≤ 2 ^ 12 := Nat.pow_le_pow_right (by omega) (by omega)
      omega
    have hmin : min bits 64 = bits := Nat.min_eq_left (by omega)
    have hsh : wrap64 ((2 : Int) ^ bits) = ((2 ^ bits : Nat) : Int) := by
      rw [show ((2 : Int) ^ bits) = ((2 ^ bits : Nat) : Int) by simp]
      unfold wrap64
      omega
    obtain ⟨m, hm⟩ : ∃ m, 2 ^ bits = m := ⟨_, rfl⟩
    rw [hm] at hp0 hp12 hsh
    have HM := hid hm
    have hsh12 : wrap64 (12 * (m : Int)) = ((12 * m : Nat) : Int) := by unfold wrap64; omega
    have HSZ : Hid (sz ≤ 50000) := by show _ ≤ _; omega
    have HF : Hid (Calls Tryz.prog 11 #[.int .i64 sz, .slice none 0 0] w2 fun e w' => ∃ g F, e = .returned (ptr g) ∧ Sw nmf g 2 F ⟨sz, zero, []⟩ [] w' ∧ (∀ i, F i → w2.heap.size ≤ i) ∧ Kp (fun _ => False) w2 w') := file_nil sz (by omega) w2
    have z0 := H66.out.cell 0
    have z1 := H66.out.cell 1
    have z2 := H66.out.cell 2
    simp at z0 z1 z2
    clear f1 f2 f3 f4 f5 f6 f7 f8 hm
    go_wp2_with fail
    refine HF.out.mono ?_
    rintro _ w3 ⟨g, F, rfl, hs, hF0, kF0⟩
    have H66a := H66.out
    have hlo := Lo.new (S := nmf) (g := g) (bits := bits) (room := room) hF0 kF0
    have hv2 := cache_cv (bits := bits) (room := room) hs HBB.out (by have := HRM.out; omega)
    have HNEW : Hid (Calls Tryz.prog 15 #[ptr g, .string nmf, .int .i64 bits, .int .i64 room] w3 fun e w' => e = .returned (.tuple #[ptr (w3.heap.size + 2), .int .i64 0]) ∧ w' = wCache w3 nmf g bits room) := new_good (bits := bits) (room := room) hs HBB.out (by have := HRM.out; omega)
    have HNB := hid (H66a.kp kF0 (fun h => h))
    have z1 := HNB.out.cell 1
    have z2 := HNB.out.cell 2
    simp at z1 z2
    obtain ⟨Q, hQ⟩ : ∃ Q, w3.heap.size + 2 = Q := ⟨_, rfl⟩
    obtain ⟨m0, hm0⟩ : ∃ m, w3.heap.size = m := ⟨_, rfl⟩
    rw [hQ, hm0] at hv2 hlo
    rw [hQ] at HNEW
    have hvs : Vw bits (max (12 * 2 ^ bits) sz) (g0 m0) ⟨sz, zero, []⟩ (vof (List.replicate (12 * 2 ^ bits) 0)) := by
      have e : vof (List.replicate (12 * 2 ^ bits) 0) = fun _ => 0 := by
        funext p
        unfold vof
        rw [List.getD_eq_getElem?_getD, List.getElem?_replicate]
        split <;> rfl
      rw [e]
      exact vw_start (Nat.le_max_right _ _)
    have hps : Ps w2 g Q bits room (max (12 * 2 ^ bits) sz) 0 (List.replicate (12 * 2 ^ bits) 0) (g0 m0) ⟨sz, zero, []⟩ F 2 (wCache w3 nmf g bits room) := ⟨hv2, hvs, Nat.le_refl _, by omega, hlo⟩
    rw [HM.out] at hps
    have HPS := hid hps
    have HFX := hid (H66.out.lt)
    clear hs hv2 HF hm0 hF0 kF0 hlo z0 H66a HNB hvs hps
    unfold ptr at *
    go_wp2_with fail
    refine HNEW.out.mono ?_
    rintro _ w4 ⟨rfl, hw4⟩
    rw [← hw4] at HPS
    clear hw4 HNEW z1 z2
    have z1 := (H66.out.kp HPS.out.lo.kp (fun h => h)).cell 1
    simp at z1
    go_wp2_with (first
      | (go_at_call 17; refine (HNU.out _ _).mono ?_; rintro e w' ⟨rfl, h⟩; replace h := h.symm; subst h)
      | (at_make; refine wpList_make_rw (κ := .u8) 47 5 1 Tryz.underlying47 Tryz.info5 (by decide) rfl _ _ rfl (12 * m) (by go_simp <;> simp only [hsh, hsh12]) (by go_simp <;> simp only [hsh, hsh12]) (by omega) ?_; intro w5 r5 b5))
    obtain ⟨p, hp⟩ : ∃ p, w4.heap.size = p := ⟨_, rfl⟩
    rw [hp] at r5
    have k5 : Kp (fun _ => False) w4 w5 := Kp.of_below b5
    have hpk0 : Pk w2 g Q bits room (max (12 * m) sz) m p 0 (List.replicate (12 * m) 0) (g0 m0) ⟨sz, zero, []⟩ F 2 w5 := ⟨HPS.out.kp0 k5, by simp, r5, ⟨fun h => by have := HPS.out.v.cm.lt h; omega, fun h => by have := HPS.out.v.sw.lt h; omega⟩, by have := HPS.out.lo.kp.size; omega⟩
    rw [hp]
    obtain ⟨M, hMx⟩ : ∃ M, max (12 * m) sz = M := ⟨_, rfl⟩
    rw [hMx] at hpk0
    have HMX : Hid (M = max (12 * m) sz) := hMx.symm
    have HPK := hid hpk0
    clear hpk0 hMx hp k5 r5 b5 HPS z1 z2 hQ HFX
    go_loopw [8] (fun vi wr => ∃ k : Nat, vi = .int .i64 k ∧ k ≤ n ∧ ∃ xs G q F N, Pk w2 g Q bits room M m p k xs G q F N wr) (fun vi _ => n - (intOf vi).toNat)
    case atStart => exact ⟨0, rfl, Nat.zero_le _, _, _, _, _, _, HPK.out⟩
    case round =>
      obtain ⟨k, rfl, hk, xs, G, q, F1, N, hpk⟩ := hrel
      clear HPK
      have HPK := hid hpk
      clear hpk
      have z3 := (H66.out.kp HPK.out.ps.lo.kp (fun h => h)).cell 3
      simp at z3
      by_cases hlt : k < n
      · have hlt' : (k : Int) < (n : Int) := by omega
        have hlt2 : k < ts.length := by have := HN.out; omega
        obtain ⟨b, off, rfl, hb, y0, y1, y2, y3, y4, y5⟩ := (HS.out.kp (HKX.out.trans HPK.out.ps.lo.kp (fun _ _ h => h)) (fun _ _ _ _ h => h)).at hlt2
        have htm := getD_memC ts k hlt2
        have HSW := hid (HW.out _ htm)
        have HTT := hid (HT8.out _ htm)
        generalize ts.getD k zsc = t at *
        obtain ⟨kd, a0, n0, pg, ot, ba, bl, bc⟩ := t
        dsimp only at y0 y1 y2 y3 y4 y5
        have s9 := St.new 49 wr #[.int .i64 kd, .int .i64 a0, .int .i64 n0, .int .i64 pg, .int .i64 ot, .slice ba bl bc]
        have k9 : Kp (fun _ => False) wr (wr.alloc (.cells #[.int .i64 kd, .int .i64 a0, .int .i64 n0, .int .i64 pg, .int .i64 ot, .slice ba bl bc] 49)) := (Kp.refl _ _).alloc _
        have hpk1 := HPK.out.kp0 k9
        have hba := HSW.out.a
        obtain ⟨ys, hyl, hys⟩ := HSW.out.b
        have HME : Hid (n - (intOf (Value.int IntKind.i64 ((k : Int) + 1))).toNat < n - (intOf (Value.int IntKind.i64 (k : Int))).toNat) := by
          show _ < _
          simp only [intOf]
          omega
        have hk60 : k ≤ 60 := Nat.le_trans hk HN60.out
        have HKN : Hid (k + 1 ≤ n) := hlt
        have HKC : Hid (Value.int IntKind.i64 ((k : Int) + 1) = Value.int IntKind.i64 ((k + 1 : Nat) : Int)) := by show _ = _; simp
        have hr20 := HRM.out.2
        have hl160 : k ≤ 160 := by have := HN60.out; omega
        have HL160 := hid hl160
        have HXL := hid HPK.out.xl
        have h12 : 12 * m ≤ M := by have := HMX.out; omega
        have HRD := hid (hpk1.read pg a0 n0 HTT.out.1 hba.2 hr20 hl160 h12 HM.out)
        have HWR := hid (hpk1.write pg a0 ys ba bl bc hyl.symm HTT.out.2 (hys.kp HKX.out (fun _ _ _ h => h)) (fun r o e h => Nat.lt_of_lt_of_le (HSW.out.bx r o e h) HKX.out.size) HTT.out.1 hba.2 hr20 hl160 h12 HM.out)
        have HAF := hid (hpk1.after pg ot)
        have HPK1 := hid hpk1
        have S9 := hid s9
        have HYS : Hid (ys.length = bl ∧ Src .u8 w ba ys) := ⟨hyl, hys⟩
        have HNF : Hid (¬ (Fc Q G wr.heap.size ∨ F1 wr.heap.size)) := fun e => by
          rcases e with e | e
          · have := HPK.out.ps.v.cm.lt e; omega
          · have := HPK.out.ps.v.sw.lt e; omega
        have HP12 : Hid (m ≤ 4096 ∧ 512 ≤ m) := ⟨hp12, hp0.1⟩
        clear hb htm hpk1 hba hyl hys s9 k9 hr20 hl160 h12 HPK hsh hsh12 hp0 hp12 hmin
        unfold ptr at *
        go_wp2_with fail
        · refine HRD.out.mono ?_
          rintro _ w6 ⟨v, z, rfl, ⟨G2, q2, F2, N2, hpk2⟩, kc, hz, hnz⟩
          have s9b := S9.out.kp kc HNF.out
          have HPK2 : Hid (∃ xs G q F N, Pk w2 g Q bits room M m p (k + 1) xs G q F N w6) := ⟨_, _, _, _, _, hpk2⟩
          have yn := s9b.cell 2
          simp at yn
          by_cases hz0 : z = 0
          · subst hz0
            obtain ⟨kp, a, t, rfl, rfl, rfl, hk12, hat, hown⟩ := hz rfl
            have hxl := hpk2.xl
            obtain ⟨o, ho⟩ : ∃ o, kp * m + a = o := ⟨_, rfl⟩
            have hff := from_fact hk12 hat HP12.out.1
            have hot : kp * m + a + t ≤ 12 * m := hff.1
            have hfr : wrap64 (wrap64 ((kp : Int) * (m : Int)) + (a : Int)) = ((kp * m + a : Nat) : Int) := hff.2
            rw [ho] at hot hfr
            have hll := cut_len hxl hot
            have hs2 := rw_cut hpk2.rw o t (by rw [hxl]; exact hot)
            rw [ho] at hown
            obtain ⟨L, hL⟩ : ∃ L, List.take t (List.drop o xs) = L := ⟨_, rfl⟩
            rw [hL] at hown hs2 hll
            obtain ⟨va, vc, rfl, hs1⟩ := own_src hown
            rw [hll]
            have hcv1 : ∀ i, (convert 47 9 (.slice va t vc)).run Tryz.prog (w6.drewN i) = .ok (.string (strOfNums L)) (w6.drewN i) := fun i => cvt hll (hs1.kp (drewN_kp (fun _ => False) w6 i) (fun _ _ _ h => h))
            have hcv2 : ∀ i c, (convert 47 9 (.slice (some ⟨p, o, none⟩) t c)).run Tryz.prog (w6.drewN i) = .ok (.string (strOfNums L)) (w6.drewN i) := fun i c => cvt hll (hs2.kp (drewN_kp (fun _ => False) w6 i) (fun _ _ _ h => h))
            have hcv3 : ∀ i c, 12 * m ≤ o → (convert 47 9 (.slice (some ⟨p, 0, none⟩) t c)).run Tryz.prog (w6.drewN i) = .ok (.string (strOfNums L)) (w6.drewN i) := fun i c hc => cvt hll (fun h0 => absurd h0 (by rw [hll]; exact Nat.not_lt_of_le (no_room hot hc)))
            rw [hfr]
            have hwt : wrap64 ((o : Int) + (t : Int)) = ((o + t : Nat) : Int) := wrap_ot hot HP12.out.1
            clear hfr hs1 hs2 hown hll hL hxl hff hat hz hnz HRD HWR HAF hpk2 s9b kc S9
            by_cases hge : 12 * m ≤ o
            · replace hcv3 := fun i c => hcv3 i c hge
              clear hcv2
              go_wp2_with fail
              go_quiet (first | (go_at_call 17; refine Calls.quiet_of_same (HNU.out _ _)))
              obtain ⟨w7, hw7⟩ : ∃ w7, w6.drewN nq = w7 := ⟨_, rfl⟩
              have HPK3 : Hid (∃ xs G q F N, Pk w2 g Q bits room M m p (k + 1) xs G q F N w7) := by
                obtain ⟨xs, G, q, F, N, h⟩ := HPK2.out
                exact ⟨xs, G, q, F, N, h.kp0 (hw7 ▸ drewN_kp _ _ _)⟩
              rw [hw7]
              clear HPK2 hw7
              go_wp2_with fail
              exact ⟨⟨k + 1, HKC.out, HKN.out, HPK3.out⟩, HME.out⟩
            · clear hcv3
              go_wp2_with fail
              go_quiet (first | (go_at_call 17; refine Calls.quiet_of_same (HNU.out _ _)))
              obtain ⟨w7, hw7⟩ : ∃ w7, w6.drewN nq = w7 := ⟨_, rfl⟩
              have HPK3 : Hid (∃ xs G q F N, Pk w2 g Q bits room M m p (k + 1) xs G q F N w7) := by
                obtain ⟨xs, G, q, F, N, h⟩ := HPK2.out
                exact ⟨xs, G, q, F, N, h.kp0 (hw7 ▸ drewN_kp _ _ _)⟩
              rw [hw7]
              clear HPK2 hw7
              go_wp2_with fail
              exact ⟨⟨k + 1, HKC.out, HKN.out, HPK3.out⟩, HME.out⟩
          · have hz2 : decide (z = 0) = false := by simpa using hz0
            have hz3 : (z == 0) = false := by simpa using hz0
            have hz4 : ∀ w : World, (binOp .eql 3 (.int .i64 z) (.int .i64 0)).run Tryz.prog w = .ok (.bool false) w := fun w => (by show Result.ok (Value.bool (z == 0)) w = _; rw [hz3])
            obtain rfl := hnz hz0
            obtain ⟨fr, hfr⟩ : ∃ fr, wrap64 (wrap64 (pg * (m : Int)) + a0) = fr := ⟨_, rfl⟩
            rw [hfr]
            clear hfr
            clear hz hnz HRD HWR HAF hpk2 s9b kc S9
            go_wp2_with fail
            go_quiet (first | (go_at_call 17; refine Calls.quiet_of_same (HNU.out _ _)))
            obtain ⟨w7, hw7⟩ : ∃ w7, w6.drewN nq = w7 := ⟨_, rfl⟩
            have HPK3 : Hid (∃ xs G q F N, Pk w2 g Q bits room M m p (k + 1) xs G q F N w7) := by
              obtain ⟨xs, G, q, F, N, h⟩ := HPK2.out
              exact ⟨xs, G, q, F, N, h.kp0 (hw7 ▸ drewN_kp _ _ _)⟩
            rw [hw7]
            clear HPK2 hw7
            go_wp2_with fail
            exact ⟨⟨k + 1, HKC.out, HKN.out, HPK3.out⟩, HME.out⟩
        · refine HWR.out.mono ?_
          rintro _ w6 ⟨z, rfl, k06, kc, ⟨rfl, kp, a, rfl, rfl, hk12, hat, hrw, G2, q2, F2, N2, hfin⟩ | ⟨hz0, G2, q2, F2, N2, hpk2⟩⟩
          · have s9b := S9.out.kp kc HNF.out
            have yb := s9b.cell 5
            simp at yb
            have hff := from_fact hk12 hat HP12.out.1
            have hot : kp * m + a + bl ≤ 12 * m := hff.1
            have hfr : wrap64 (wrap64 ((kp : Int) * (m : Int)) + (a : Int)) = ((kp * m + a : Nat) : Int) := hff.2
            have hsy := HYS.out.2.kp (HKX.out.trans k06 (fun _ _ h => h)) (fun _ _ _ h => h)
            have hxl := HXL.out
            obtain ⟨o, ho⟩ : ∃ o, kp * m + a = o := ⟨_, rfl⟩
            rw [ho] at hot hfr hfin
            rw [hfr]
            have HRW := hid hrw
            have HFIN : Hid (∀ w'', Rw .u8 5 w'' p (splice xs o ys) → Kp (fun i => i = p) w6 w'' → ∃ xs G q F N, Pk w2 g Q bits room M m p (k + 1) xs G q F N w'') := fun w'' h1 h2 => ⟨_, _, _, _, _, hfin w'' h1 h2⟩
            have HSY := hid hsy
            have HCF := hid (cpy_fact HYS.out.1 hot)
            have hle : o ≤ 12 * m := no_more hot
            clear hff hfr hsy hxl hrw hfin HRD HWR HAF s9b kc S9 k06 ho hat hk12 hot
            by_cases hge : 12 * m ≤ o
            · go_wp2_with (first | (go_at_call 17; refine (HNU.out _ _).mono ?_; rintro e w' ⟨rfl, h⟩; replace h := h.symm; subst h))
              refine wp_region_tail hmix (by kernel_rfl) ?_
              dsimp only [List.dropLast, List.getLast]
              repeat (gi_big_quiet_step (fail))
              refine wpQuietIn_nil ?_
              intro _ hw'
              obtain ⟨nq, hw2⟩ := hw'
              subst hw2
              have kq0 := drewN_kp (fun _ => False) w6 nq
              generalize w6.drewN nq = X6 at kq0 ⊢
              refine wpListIn_copy_rw rfl (.tmp 133) (.tmp 135) 47 47 rfl 5 Tryz.underlying47 info5s _ _ _ _ _ _ rfl rfl p o 5 xs ys (HRW.out.kp kq0 (fun h => h)) (by have := HCF.out.2; rw [Nat.sub_eq_zero_of_le hge] at this; exact this) (fun hpos => absurd hpos (by rw [HCF.out.2, Nat.sub_eq_zero_of_le hge]; simp)) (by rw [HXL.out]; exact HCF.out.1) ?_
              intro w7 r7 g7
              have HPK3 := hid (HFIN.out w7 r7 ((kq0.mono (G := fun i => i = p) (fun _ _ h => h.elim)).trans (Kp.of_grown g7 (F := fun i => i = p) (fun j e => (Option.some.inj e).symm)) (fun _ _ h => h)))
              clear HFIN HRW HSY HCF r7 g7 kq0
              gi_wp2_with fail
              go_wp2_with fail
              exact ⟨⟨k + 1, HKC.out, HKN.out, HPK3.out⟩, HME.out⟩
            · go_wp2_with (first | (go_at_call 17; refine (HNU.out _ _).mono ?_; rintro e w' ⟨rfl, h⟩; replace h := h.symm; subst h))
              refine wp_region_tail hmix (by kernel_rfl) ?_
              dsimp only [List.dropLast, List.getLast]
              repeat (gi_big_quiet_step (fail))
              refine wpQuietIn_nil ?_
              intro _ hw'
              obtain ⟨nq, hw2⟩ := hw'
              subst hw2
              have kq0 := drewN_kp (fun _ => False) w6 nq
              generalize w6.drewN nq = X6 at kq0 ⊢
              refine wpListIn_copy_rw rfl (.tmp 133) (.tmp 135) 47 47 rfl 5 Tryz.underlying47 info5s _ _ _ _ _ _ rfl rfl p o 5 xs ys (HRW.out.kp kq0 (fun h => h)) HCF.out.2 (fun hpos => ⟨rfl, by
                obtain ⟨b', off', e, hc⟩ := (HSY.out.kp kq0 (fun _ _ _ h => h)) hpos
                exact ⟨_, e, fun j hj => by rw [add_o]; exact hc j hj⟩⟩) (by rw [HXL.out]; exact HCF.out.1) ?_
              intro w7 r7 g7
              have HPK3 := hid (HFIN.out w7 r7 ((kq0.mono (G := fun i => i = p) (fun _ _ h => h.elim)).trans (Kp.of_grown g7 (F := fun i => i = p) (fun j e => (Option.some.inj e).symm)) (fun _ _ h => h)))
              clear HFIN HRW HSY HCF r7 g7 kq0
              gi_wp2_with fail
              go_wp2_with fail
              exact ⟨⟨k + 1, HKC.out, HKN.out, HPK3.out⟩, HME.out⟩
          · have hz2 : decide (z = 0) = false := by simpa using hz0
            have HPK3 : Hid (∃ xs G q F N, Pk w2 g Q bits room M m p (k + 1) xs G q F N w6) := ⟨_, _, _, _, _, hpk2⟩
            obtain ⟨fr, hfr⟩ : ∃ fr, wrap64 (wrap64 (pg * (m : Int)) + a0) = fr := ⟨_, rfl⟩
            rw [hfr]
            clear hfr
            clear HRD HWR HAF hpk2 kc S9 k06
            go_wp2_with (first | (go_at_call 17; refine (HNU.out _ _).mono ?_; rintro e w' ⟨rfl, h⟩; replace h := h.symm; subst h))
            exact ⟨⟨k + 1, HKC.out, HKN.out, HPK3.out⟩, HME.out⟩
        · refine HWR.out.mono ?_
          rintro _ w6 ⟨z, rfl, k06, kc, ⟨rfl, kp, a, rfl, rfl, hk12, hat, hrw, G2, q2, F2, N2, hfin⟩ | ⟨hz0, G2, q2, F2, N2, hpk2⟩⟩
          · have s9b := S9.out.kp kc HNF.out
            have yb := s9b.cell 5
            simp at yb
            have hff := from_fact hk12 hat HP12.out.1
            have hot : kp * m + a + bl ≤ 12 * m := hff.1
            have hfr : wrap64 (wrap64 ((kp : Int) * (m : Int)) + (a : Int)) = ((kp * m + a : Nat) : Int) := hff.2
            have hsy := HYS.out.2.kp (HKX.out.trans k06 (fun _ _ h => h)) (fun _ _ _ h => h)
            have hxl := HXL.out
            obtain ⟨o, ho⟩ : ∃ o, kp * m + a = o := ⟨_, rfl⟩
            rw [ho] at hot hfr hfin
            rw [hfr]
            have HRW := hid hrw
            have HFIN : Hid (∀ w'', Rw .u8 5 w'' p (splice xs o ys) → Kp (fun i => i = p) w6 w'' → ∃ xs G q F N, Pk w2 g Q bits room M m p (k + 1) xs G q F N w'') := fun w'' h1 h2 => ⟨_, _, _, _, _, hfin w'' h1 h2⟩
            have HSY := hid hsy
            have HCF := hid (cpy_fact HYS.out.1 hot)
            have hle : o ≤ 12 * m := no_more hot
            clear hff hfr hsy hxl hrw hfin HRD HWR HAF s9b kc S9 k06 ho hat hk12 hot
            by_cases hge : 12 * m ≤ o
            · go_wp2_with (first | (go_at_call 17; refine (HNU.out _ _).mono ?_; rintro e w' ⟨rfl, h⟩; replace h := h.symm; subst h))
              refine wp_region_tail hmix (by kernel_rfl) ?_
              dsimp only [List.dropLast, List.getLast]
              repeat (gi_big_quiet_step (fail))
              refine wpQuietIn_nil ?_
              intro _ hw'
              obtain ⟨nq, hw2⟩ := hw'
              subst hw2
              have kq0 := drewN_kp (fun _ => False) w6 nq
              generalize w6.drewN nq = X6 at kq0 ⊢
              refine wpListIn_copy_rw rfl (.tmp 133) (.tmp 135) 47 47 rfl 5 Tryz.underlying47 info5s _ _ _ _ _ _ rfl rfl p o 5 xs ys (HRW.out.kp kq0 (fun h => h)) (by have := HCF.out.2; rw [Nat.sub_eq_zero_of_le hge] at this; exact this) (fun hpos => absurd hpos (by rw [HCF.out.2, Nat.sub_eq_zero_of_le hge]; simp)) (by rw [HXL.out]; exact HCF.out.1) ?_
              intro w7 r7 g7
              have HPK3 := hid (HFIN.out w7 r7 ((kq0.mono (G := fun i => i = p) (fun _ _ h => h.elim)).trans (Kp.of_grown g7 (F := fun i => i = p) (fun j e => (Option.some.inj e).symm)) (fun _ _ h => h)))
              clear HFIN HRW HSY HCF r7 g7 kq0
              gi_wp2_with fail
              go_wp2_with fail
              exact ⟨⟨k + 1, HKC.out, HKN.out, HPK3.out⟩, HME.out⟩
            · go_wp2_with (first | (go_at_call 17; refine (HNU.out _ _).mono ?_; rintro e w' ⟨rfl, h⟩; replace h := h.symm; subst h))
              refine wp_region_tail hmix (by kernel_rfl) ?_
              dsimp only [List.dropLast, List.getLast]
              repeat (gi_big_quiet_step (fail))
              refine wpQuietIn_nil ?_
              intro _ hw'
              obtain ⟨nq, hw2⟩ := hw'
              subst hw2
              have kq0 := drewN_kp (fun _ => False) w6 nq
              generalize w6.drewN nq = X6 at kq0 ⊢
              refine wpListIn_copy_rw rfl (.tmp 133) (.tmp 135) 47 47 rfl 5 Tryz.underlying47 info5s _ _ _ _ _ _ rfl rfl p o 5 xs ys (HRW.out.kp kq0 (fun h => h)) HCF.out.2 (fun hpos => ⟨rfl, by
                obtain ⟨b', off', e, hc⟩ := (HSY.out.kp kq0 (fun _ _ _ h => h)) hpos
                exact ⟨_, e, fun j hj => by rw [add_o]; exact hc j hj⟩⟩) (by rw [HXL.out]; exact HCF.out.1) ?_
              intro w7 r7 g7
              have HPK3 := hid (HFIN.out w7 r7 ((kq0.mono (G := fun i => i = p) (fun _ _ h => h.elim)).trans (Kp.of_grown g7 (F := fun i => i = p) (fun j e => (Option.some.inj e).symm)) (fun _ _ h => h)))
              clear HFIN HRW HSY HCF r7 g7 kq0
              gi_wp2_with fail
              go_wp2_with fail
              exact ⟨⟨k + 1, HKC.out, HKN.out, HPK3.out⟩, HME.out⟩
          · have hz2 : decide (z = 0) = false := by simpa using hz0
            have HPK3 : Hid (∃ xs G q F N, Pk w2 g Q bits room M m p (k + 1) xs G q F N w6) := ⟨_, _, _, _, _, hpk2⟩
            obtain ⟨fr, hfr⟩ : ∃ fr, wrap64 (wrap64 (pg * (m : Int)) + a0) = fr := ⟨_, rfl⟩
            rw [hfr]
            clear hfr
            clear HRD HWR HAF hpk2 kc S9 k06
            go_wp2_with (first | (go_at_call 17; refine (HNU.out _ _).mono ?_; rintro e w' ⟨rfl, h⟩; replace h := h.symm; subst h))
            exact ⟨⟨k + 1, HKC.out, HKN.out, HPK3.out⟩, HME.out⟩
        · refine HAF.out.mono ?_
          rintro _ w6 ⟨z, rfl, kc, G2, F2, hpk2⟩
          have s9b := S9.out.kp kc HNF.out
          have yp := s9b.cell 3
          simp at yp
          obtain ⟨fr, hfr⟩ : ∃ fr, wrap64 (wrap64 (pg * (m : Int)) + a0) = fr := ⟨_, rfl⟩
          rw [hfr]
          clear hfr
          have HBK := hid (hpk2.back pg HRM.out.2 HL160.out)
          clear HRD HWR HAF hpk2 kc S9 s9b
          unfold ptr at *
          go_wp2_with fail
          refine HBK.out.mono ?_
          rintro _ w7 ⟨z2, rfl, G3, q3, F3, N3, hpk3⟩
          have HPK3 : Hid (∃ xs G q F N, Pk w2 g Q bits room M m p (k + 1) xs G q F N w7) := ⟨_, _, _, _, _, hpk3⟩
          clear HBK hpk3
          go_wp2_with fail
          exact ⟨⟨k + 1, HKC.out, HKN.out, HPK3.out⟩, HME.out⟩
      · obtain rfl : k = n := by omega
        have HFL := hid (HPK.out.flush HRM.out.2 (by have := HN60.out; omega))
        have HXL := hid HPK.out.xl
        have HP12 : Hid (m ≤ 4096 ∧ 512 ≤ m) := ⟨hp12, hp0.1⟩
        have z0 := (H66.out.kp HPK.out.ps.lo.kp (fun h => h)).cell 0
        clear HPK hsh hsh12 hp0 hp12 hmin hlt hk
        unfold ptr at *
        go_wp2_with fail
        refine HFL.out.mono ?_
        rintro _ w6 ⟨rfl, q2, F2, N2, hpf⟩
        have HPE := hid (pending_w hpf.sw)
        rw [hpf.ps] at HPE
        have HPF := hid hpf
        clear hpf HFL z3 z0
        unfold ptr at *
        go_wp2_with (first | (go_at_call 17; refine (HNU.out _ _).mono ?_; rintro e w' ⟨rfl, h⟩; replace h := h.symm; subst h))
        refine HPE.out.mono ?_
        rintro _ w7 ⟨rfl, k7⟩
        replace HPF := hid (HPF.out.kp0 k7)
        have HSI := hid (size_w HPF.out.sw)
        clear HPE k7
        unfold ptr at *
        go_wp2_with fail
        refine HSI.out.mono ?_
        rintro _ w8 ⟨rfl, h8⟩
        replace h8 := h8.symm
        subst h8
        have HRE : Hid (Calls Tryz.prog 31 #[.pointer (some ⟨g, 0, none⟩), .string nmf, .int .i64 0, .int .i64 q2.sz] w7 (RdW w7 q2 0 q2.sz)) := read_w HPF.out.sw 0 q2.sz
        clear HSI
        go_wp2_with fail
        refine HRE.out.mono ?_
        rintro e w8 ⟨k8, ⟨hlt, rfl⟩ | ⟨hle, rb, rfl, hb1, hr8⟩⟩
        · exact absurd hlt (Nat.not_lt_zero _)
        have hrl : (rdz q2 0 q2.sz).length = q2.sz := by unfold rdz; simp
        rw [hrl]
        replace HPF := hid (HPF.out.kp0 k8)
        have HQM : Hid (q2.sz ≤ 100000) := by
          have h1 := HPF.out.sz
          have h2 := HMX.out
          have h3 := HSZ.out
          have h4 := HP12.out.1
          show _ ≤ _
          omega
        have HGA := hid (grown_any w8 p (12 * m) xs sz HXL.out.symm HPF.out.rw (by have := HP12.out.1; omega) (by have := HSZ.out; omega))
        have HR8 := hid hr8
        have HRL := hid hrl
        have z0 := (H66.out.kp HPF.out.kp (fun h => h)).cell 0
        simp at z0
        clear HRE k8 hle hb1 hr8 hrl
        go_wp2_with (first | (go_at_call 17; refine (HNU.out _ _).mono ?_; rintro e w' ⟨rfl, h⟩; replace h := h.symm; subst h))
        refine HGA.out.mono ?_
        rintro _ w9 ⟨j, b9, c9, rfl, hj, hjc, hjs, k9⟩
        have hng : ¬ ((12 * m + j : Nat) : Int) < (q2.sz : Int) := by
          have h1 := HPF.out.sz
          have h2 := HMX.out
          omega
        replace HPF := hid (HPF.out.kp0 k9)
        replace HR8 := hid (HR8.out.kp k9 (fun h => h))
        have HGB := hid (grown_any w9 rb q2.sz (rdz q2 0 q2.sz) (12 * m) HRL.out.symm HR8.out (by have := HQM.out; omega) (by have := HP12.out.1; omega))
        have e12 : ((12 * m : Nat) : Int) = 12 * (m : Int) := by simp
        rw [e12] at HGB
        clear HGA k9 hjs hjc z0 HR8 e12
        go_wp2_with fail
        refine HGB.out.mono ?_
        rintro _ w10 ⟨j2, b10, c10, rfl, hj2, hjc2, hs10, k10⟩
        replace HPF := hid (HPF.out.kp0 k10)
        have h12c : 12 * m ≤ c10 := by omega
        have hsm := HPF.out.same j2 (by rw [HXL.out, hj2]; exact Nat.le_max_right _ _)
        have hs11 := hs10.take xs.length
        rw [hsm] at hs11
        have hs12 : Src .u8 w10 (some ⟨p, 0, none⟩) xs := Src.mk (fun t ht => by rw [Nat.zero_add]; exact HPF.out.rw.cell t ht)
        have hcv1 : ∀ i c, (convert 47 9 (.slice (some ⟨b10, 0, none⟩) (12 * m) c)).run Tryz.prog (w10.drewN i) = .ok (.string (strOfNums xs)) (w10.drewN i) := fun i c => cvt HXL.out (hs11.kp (drewN_kp (fun _ => False) w10 i) (fun _ _ _ h => h))
        have hcv2 : ∀ i c, (convert 47 9 (.slice (some ⟨p, 0, none⟩) (12 * m) c)).run Tryz.prog (w10.drewN i) = .ok (.string (strOfNums xs)) (w10.drewN i) := fun i c => cvt HXL.out (hs12.kp (drewN_kp (fun _ => False) w10 i) (fun _ _ _ h => h))
        have HWO := hid (fun i => works_any (w10.drewN i))
        clear HGB hj2 hjc2 hs10 hsm hs11 hs12 k10 HRL hng hj
        go_wp2_with fail
        refine (wpIn_wide (n := 3)).1 ?_
        refine wpIn_region_rest 9 hmix (by kernel_rfl) (by decide) ?_
        dsimp only [List.take]
        repeat (gi_big_quiet_step (fail))
        refine wpQuietIn_nil ?_
        intro U hU
        obtain ⟨nq, hU2⟩ := hU
        subst hU2
        refine anyIn_one (i := 9) (fuel := 2) (by kernel_rfl) rfl ?_
        gi_wp2_with fail
        refine ⟨trivial, (callsIn_wide.2 (HWO.out nq)).mono ?_⟩
        rintro _ w11 ⟨rfl, k11⟩
        have HK11 : Hid (Kp (fun _ => False) w w11) := (HKX.out.trans (HPF.out.kp.trans (drewN_kp (fun _ => False) w10 nq) (fun _ _ h => h)) (fun _ _ h => h)).trans k11 (fun _ _ h => h)
        clear k11 HWO
        gi_wp2_with fail
        refine anyIn_one (i := 10) (fuel := 1) (by kernel_rfl) rfl ?_
        gi_wp2_with fail
        refine anyIn_one (i := 11) (fuel := 0) (by kernel_rfl) rfl ?_
        gi_wp2_with fail
        refine anyIn_done (F := Fence.wide) (n := 3) (P := Tryz.prog) (by kernel_rfl) ?_
        go_wp2_with fail
        go_ret
        exact ⟨rfl, HK11.out⟩
end Go.Proofs.YtnccklbnncaeoaaGreat
