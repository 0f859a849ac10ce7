/- later: the document's May; some. -/
import Derived.Test.YtgfondgejimkkaaWk
namespace Go.Proofs.Ytgfondgejimkkaa
open Go.RowKit
set_option linter.unusedVariables false
set_option linter.unusedSimpArgs false
set_option maxRecDepth 100000 in
set_option maxHeartbeats 4000000 in
theorem rmay_any (x : Rn) (w : World) (hx : x.i6) : Calls Try.prog 21 #[.agg x.cs] w fun e w' => e = .returned (.bool (mayb x)) ∧ Kp (fun _ => False) w w' := by
  unfold Rn.i6 at hx
  obtain ⟨xa, xn⟩ := x
  unfold Rn.cs
  have hm : mayb ⟨xa, xn⟩ = (decide (0 ≤ xa) && (decide (1 ≤ xn) && (decide (xa ≤ 72057594037927936) && decide (xn ≤ 72057594037927936 - xa)))) := by
    unfold mayb
    dsimp only at *
    by_cases h1 : 0 ≤ xa
    · by_cases h2 : 1 ≤ xn
      · by_cases h3 : xa ≤ 72057594037927936 - xn
        · have h4 : xa ≤ 72057594037927936 := by omega
          have h5 : xn ≤ 72057594037927936 - xa := by omega
          simp [h1, h2, h3, h4, h5]
        · have h5 : ¬ xn ≤ 72057594037927936 - xa := by omega
          simp [h1, h2, h3, h5]
      · simp [h1, h2]
    · simp [h1]
  rw [hm]
  clear hm
  dsimp only at *
  by_cases h1 : 0 ≤ xa
  · by_cases h2 : 1 ≤ xn
    · by_cases h3 : xa ≤ 72057594037927936
      · have hw : IntKind.i64.wrap (72057594037927936 - xa) = 72057594037927936 - xa := by rw [IntKind.wrap_i64]; omega
        have d1 : decide (0 ≤ xa) = true := by simpa using h1
        have d2 : decide (1 ≤ xn) = true := by simpa using h2
        have d3 : decide (xa ≤ 72057594037927936) = true := by simpa using h3
        rw [d1, d2, d3]
        go_enter Try.func21, Try.ntmps21
        go_wp2
        go_ret
        exact ⟨by simp, (Kp.refl _ _).alloc _⟩
      · have d1 : decide (0 ≤ xa) = true := by simpa using h1
        have d2 : decide (1 ≤ xn) = true := by simpa using h2
        have d3 : decide (xa ≤ 72057594037927936) = false := by simpa using h3
        rw [d1, d2, d3]
        go_enter Try.func21, Try.ntmps21
        go_wp2
        go_ret
        exact ⟨by simp, (Kp.refl _ _).alloc _⟩
    · have d1 : decide (0 ≤ xa) = true := by simpa using h1
      have d2 : decide (1 ≤ xn) = false := by simpa using h2
      rw [d1, d2]
      go_enter Try.func21, Try.ntmps21
      go_wp2
      go_ret
      exact ⟨by simp, (Kp.refl _ _).alloc _⟩
  · have d1 : decide (0 ≤ xa) = false := by simpa using h1
    rw [d1]
    go_enter Try.func21, Try.ntmps21
    go_wp2
    go_ret
    exact ⟨by simp, (Kp.refl _ _).alloc _⟩
/-- Those that may be, short ones. -/
def okb (x : Rn) : Bool := mayb x && decide (x.n < 1000000)
def sm (l : List Rn) : List Rn := l.filter okb
theorem sm_may {l : List Rn} {x : Rn} (h : x ∈ sm l) : Mayr x ∧ x.n < 1000000 := by
  unfold sm at h
  obtain ⟨_, h2⟩ := List.mem_filter.1 h
  unfold okb at h2
  rw [Bool.and_eq_true, decide_eq_true_eq] at h2
  exact ⟨(mayb_iff x).1 h2.1, h2.2⟩
theorem sm_len (l : List Rn) : (sm l).length ≤ l.length := List.length_filter_le _ _
theorem sm_snoc (l : List Rn) (x : Rn) : sm (l ++ [x]) = sm l ++ (if okb x = true then [x] else []) := by
  unfold sm
  rw [List.filter_append]
  congr 1
  by_cases h : okb x = true <;> simp [h]
set_option maxRecDepth 100000 in
set_option maxHeartbeats 8000000 in
theorem some_any (w : World) (ao : Option Addr) (n cap : Nat) (l : List Rn) (hl : l.length = n) (hn : n ≤ 1000) (hi : ∀ x ∈ l, x.i6) (hs : Srcr w ao l) :
    Calls Try.prog 27 #[.slice ao n cap] w fun e w' => ∃ v, e = .returned v ∧ Ownr w' w.heap.size v (sm l) ∧ Kp (fun _ => False) w w' := by
  have HL := hid hl
  have HI := hid hi
  have HS := hid hs
  clear hl hi hs
  go_enter Try.func27, Try.ntmps27
  go_wp2_with fail
  go_loopw [3, 4] (fun v i wr => ∃ (k : Nat), i = .int .i64 (k : Int) ∧ k ≤ n ∧ Hid (Ownr wr w.heap.size v (sm (l.take k))) ∧ Hid (Kp (fun _ => False) w wr)) (fun _ i _ => n - (intOf i).toNat)
  case atStart => exact ⟨0, rfl, Nat.zero_le _, Ownr.nil _ _, Kp.refl _ _⟩
  case round =>
    obtain ⟨k, rfl, hk, HO, HK⟩ := hrel
    by_cases hlt : k < n
    · have hkl : k < l.length := by have := HL.out; omega
      obtain ⟨gb, off, rfl, hgb, x0, x1⟩ := (HS.out.kp HK.out (fun _ _ _ _ h => h)).at (i := k) hkl
      have HSR : Hid (∀ U, Kp (fun _ => False) wr U → Srcr U (some ⟨gb, off, none⟩) l) := fun U hU => (HS.out.kp HK.out (fun _ _ _ _ h => h)).kp hU (fun _ _ _ _ h => h)
      have HTS := hid (take_snocr hkl)
      have HXI := hid (HI.out _ (gd_mem hkl))
      have hll : (sm (l.take k)).length ≤ 1000 := Nat.le_trans (sm_len _) (by rw [List.length_take]; omega)
      have HY : Hid (∀ U, Kp (fun _ => False) wr U → U.cell? ⟨gb, off + k * 2, none⟩ = some (.int .i64 (l.getD k zRn).a) ∧ U.cell? ⟨gb, off + k * 2 + 1, none⟩ = some (.int .i64 (l.getD k zRn).n)) := fun U hU => ⟨kp_cell hU x0 (fun h => h), kp_cell hU x1 (fun h => h)⟩
      generalize l.getD k zRn = x at *
      obtain ⟨xa, xn⟩ := x
      dsimp only at x0 x1 HY
      have HMA := hid (rmay_any ⟨xa, xn⟩ wr HXI.out)
      unfold Rn.cs at HMA
      dsimp only at HMA
      have HWS : Hid (w.heap.size ≤ wr.heap.size) := HK.out.size
      obtain ⟨bl, hbl⟩ : ∃ bl, bl = mayb ⟨xa, xn⟩ := ⟨_, rfl⟩
      rw [← hbl] at HMA
      have HB := hid hbl
      clear hbl
      cases bl with
      | false =>
        go_wp2_with (first | (go_at_call 21; refine HMA.out.mono ?_; rintro e w2 ⟨rfl, k2⟩; have K2 := hid k2; clear k2))
        go_roundw
        case rel => exact ⟨k + 1, by go_num, hlt, by rw [HTS.out, sm_snoc, if_neg (by unfold okb; rw [← HB.out]; simp), List.append_nil]; exact HO.out.kp K2.out (fun _ _ h => h), HK.out.trans K2.out (fun _ _ h => h)⟩
        case measure => simp [intOf]; omega
      | true =>
        by_cases hs : xn < 1000000
        · go_wp2_with (first | (go_at_call 21; refine HMA.out.mono ?_; rintro e w2 ⟨rfl, k2⟩; have K2 := hid k2; obtain ⟨y0, y1⟩ := HY.out w2 k2; clear k2 x0 x1) | (at_builtin; refine wpList_append_rr rfl _ _ rfl w.heap.size _ (sm (l.take k)) rfl ((HO.out.kp K2.out (fun _ _ h => h)).kp ((Kp.refl (fun _ => False) w2).alloc _) (fun _ _ h => h)) (some ⟨w2.heap.size, 0, none⟩) 1 1 [⟨xa, xn⟩] rfl rfl (fun e => by cases e) (srcr_new1 w2 ⟨xa, xn⟩) (by omega) (by have h1 : w.heap.size ≤ wr.heap.size := HWS.out; have h2 := K2.out.size; simp; omega) ?_; intro v3 w3 o3 k3 _; have O3 := hid o3; have K3 : Hid (Kp (fun _ => False) w w3) := (((HK.out.trans K2.out (fun _ _ h => h)).alloc _).trans k3 (fun i hi e => by have := ((HO.out).blk e).1; omega)); clear o3 k3))
          go_roundw
          case rel => exact ⟨k + 1, by go_num, hlt, by rw [HTS.out, sm_snoc, if_pos (by unfold okb; rw [← HB.out]; simpa using hs)]; exact O3.out, K3⟩
          case measure => simp [intOf]; omega
        · go_wp2_with (first | (go_at_call 21; refine HMA.out.mono ?_; rintro e w2 ⟨rfl, k2⟩; have K2 := hid k2; obtain ⟨y0, y1⟩ := HY.out w2 k2; clear k2 x0 x1))
          go_roundw
          case rel => exact ⟨k + 1, by go_num, hlt, by rw [HTS.out, sm_snoc, if_neg (by unfold okb; rw [← HB.out]; simpa using hs), List.append_nil]; exact HO.out.kp K2.out (fun _ _ h => h), HK.out.trans K2.out (fun _ _ h => h)⟩
          case measure => simp [intOf]; omega
    · obtain rfl : k = n := by omega
      have HT : Hid (l.take k = l) := List.take_of_length_le (by have := HL.out; omega)
      go_wp2_with fail
      go_ret
      exact ⟨_, rfl, by rw [← HT.out]; exact HO.out, HK.out⟩
end Go.Proofs.Ytgfondgejimkkaa
