/- entry: the document's Get. -/
import Derived.Test.YtkmkhjcmgockkaaEt
namespace Go.Proofs.Ytkmkhjcmgockkaa
open Go.RowKit
set_option linter.unusedVariables false
set_option maxHeartbeats 1000000 in
theorem rget_1 (ao : Option Addr) (len cap : Nat) (i b : Int) (w : World) (hb : ¬ Bt b) : Calls Try.prog 15 #[.slice ao len cap, .int .i64 i, .int .i64 b] w fun r w' => r = .returned (.tuple #[.agg zE.cs, .int .i64 2]) ∧ Kp (fun _ => False) w w' := by
  have HB := hid (Eb.new w zE)
  have HK : Hid (Kp (fun _ => False) w (w.alloc (.cells zE.cs 24))) := (Kp.refl _ _).alloc _
  have CB := hid (fun w => rbits_no b w hb)
  go_enter Try.func15, Try.ntmps15
  go_wp2_with (first | (go_at_call 11; refine (CB.out _).mono ?_; rintro r w' ⟨rfl, rfl⟩) | (refine wpList_store_en rfl (.tmp 6) (.tmp 13) rfl w.heap.size rfl (e := zE) (e' := zE) rfl HB.out ?_; intro w2 b2 k2))
  refine bodyPost_ret (results_cell_tmp2 Try.results15 _ _ _ rfl rfl b2.load) rfl ⟨rfl, HK.out.trans k2 (fun i h1 h2 => by omega)⟩
set_option maxHeartbeats 1000000 in
theorem rget_2 (ao : Option Addr) (len cap : Nat) (i b : Int) (w : World) (hl : len ≤ 1000000000000) (hb : Bt b) (hh : ¬ Hs len i) : Calls Try.prog 15 #[.slice ao len cap, .int .i64 i, .int .i64 b] w fun r w' => r = .returned (.tuple #[.agg zE.cs, .int .i64 4]) ∧ Kp (fun _ => False) w w' := by
  have HB := hid (Eb.new w zE)
  have HK : Hid (Kp (fun _ => False) w (w.alloc (.cells zE.cs 24))) := (Kp.refl _ _).alloc _
  have CB := hid (fun w => rbits_yes b w hb)
  have hq : (len : Int).tdiv 8 = ((len / 8 : Nat) : Int) := by rw [Int.tdiv_eq_ediv_of_nonneg (by omega)]; omega
  have hq2 : IntKind.i64.wrap ((len / 8 : Nat) : Int) = ((len / 8 : Nat) : Int) := by rw [IntKind.wrap_i64]; omega
  unfold Hs at hh
  generalize len / 8 = q at *
  by_cases h0 : i < 0
  · clear hh
    go_enter Try.func15, Try.ntmps15
    go_wp2_with (first | (go_at_call 11; refine (CB.out _).mono ?_; rintro r w' ⟨rfl, rfl⟩) | (refine wpList_store_en rfl (.tmp 6) (.tmp 23) rfl w.heap.size rfl (e := zE) (e' := zE) rfl HB.out ?_; intro w2 b2 k2))
    refine bodyPost_ret (results_cell_tmp2 Try.results15 _ _ _ rfl rfl b2.load) rfl ⟨rfl, HK.out.trans k2 (fun i h1 h2 => by omega)⟩
  · have h1 : (q : Int) ≤ i := by omega
    clear hh
    go_enter Try.func15, Try.ntmps15
    go_wp2_with (first | (go_at_call 11; refine (CB.out _).mono ?_; rintro r w' ⟨rfl, rfl⟩) | (refine wpList_store_en rfl (.tmp 6) (.tmp 23) rfl w.heap.size rfl (e := zE) (e' := zE) rfl HB.out ?_; intro w2 b2 k2))
    refine bodyPost_ret (results_cell_tmp2 Try.results15 _ _ _ rfl rfl b2.load) rfl ⟨rfl, HK.out.trans k2 (fun i h1 h2 => by omega)⟩
set_option maxHeartbeats 2000000 in
theorem rget_3 (ao : Option Addr) (cap : Nat) (zs : List Int) (k : Nat) (b : Int) (w : World) (hl : zs.length ≤ 1000000000000) (hcap : zs.length ≤ cap) (hbt : Byt zs) (hs : Src w ao zs) (hb : Bt b) (hk : k < zs.length / 8) (X : En) (E : Int) (ok : Bool) (hE : (ok = true ∧ E = 0) ∨ (ok = false ∧ E = 190 ∧ X = zE)) (OF : Hid (∀ w, Calls Try.prog 13 #[.int .u64 (wd zs k), .int .i64 b] w fun r w' => r = .returned (.tuple #[.agg X.cs, .bool ok]) ∧ Kp (fun _ => False) w w')) : Calls Try.prog 15 #[.slice ao zs.length cap, .int .i64 (k : Int), .int .i64 b] w fun r w' => r = .returned (.tuple #[.agg X.cs, .int .i64 E]) ∧ Kp (fun _ => False) w w' := by
  have HB := hid (Eb.new w zE)
  have HK : Hid (Kp (fun _ => False) w (w.alloc (.cells zE.cs 24))) := (Kp.refl _ _).alloc _
  obtain ⟨g, off, rfl, _⟩ := hs (by omega)
  have CB := hid (fun w => rbits_yes b w hb)
  have hq : (zs.length : Int).tdiv 8 = ((zs.length / 8 : Nat) : Int) := by rw [Int.tdiv_eq_ediv_of_nonneg (by omega)]; omega
  have hq2 : IntKind.i64.wrap ((zs.length / 8 : Nat) : Int) = ((zs.length / 8 : Nat) : Int) := by rw [IntKind.wrap_i64]; omega
  have h1 : ¬ ((zs.length / 8 : Nat) : Int) ≤ (k : Int) := by omega
  have h0 : ¬ (k : Int) < 0 := by omega
  have w1 : IntKind.i64.wrap (8 * (k : Int)) = ((8 * k : Nat) : Int) := by rw [IntKind.wrap_i64]; omega
  have w2 : IntKind.i64.wrap (((8 * k : Nat) : Int) + 8) = ((8 * k + 8 : Nat) : Int) := by rw [IntKind.wrap_i64]; omega
  have VV := fun c => hid (value_seg g off c zs (8 * k) 8 _ hbt (by omega) (by omega) (hs.kp HK.out).at)
  have VV : ∀ c, Hid (Calls Try.prog 29 #[.slice (some ⟨g, off + 8 * k, none⟩) 8 c] (w.alloc (.cells zE.cs 24)) fun e w' => e = .returned (.int .u64 (wd zs k)) ∧ (w.alloc (.cells zE.cs 24)) = w') := VV
  have c1 : ((8 * k + 8 : Nat) : Int) ≤ (cap : Int) := by omega
  have c2 : ¬ cap = 8 * k := by omega
  have c3 : (8 * k + 8) - 8 * k = 8 := by omega
  have c4 : ((8 * k : Nat) : Int) ≤ ((8 * k + 8 : Nat) : Int) := by omega
  have hzl : zs.length / 8 ≤ zs.length := Nat.div_le_self _ _
  generalize wd zs k = x at *
  generalize zs.length / 8 = q at *
  generalize zs.length = len at *
  generalize hA : 8 * k = A at *
  generalize hB8 : A + 8 = A8 at *
  have HLT := hid HB.out.lt
  rcases hE with ⟨rfl, rfl⟩ | ⟨rfl, rfl, rfl⟩
  · go_enter Try.func15, Try.ntmps15
    go_wp2_with (first | (go_at_call 11; refine (CB.out _).mono ?_; rintro r w' ⟨rfl, rfl⟩) | (go_at_call 29; refine (VV _).out.mono ?_; rintro r w' ⟨rfl, rfl⟩))
    refine (OF.out _).mono ?_
    rintro r w3 ⟨rfl, k3⟩
    have B3 := hid (HB.out.kp k3 (fun x => x))
    have K3 := hid (HK.out.trans k3 (fun _ _ x => x))
    go_wp2_with (first | (refine wpList_store_en rfl (.tmp 8) (.tmp 35) rfl w3.heap.size rfl (e := zE) (e' := X) rfl (Eb.new w3 zE) ?_; intro w4 b4 j4; have k4 : Kp (fun _ => False) w3 w4 := ((Kp.refl (fun _ => False) w3).alloc _).trans j4 (fun i h1 h2 => by omega); have B4 := hid (B3.out.kp k4 (fun x => x)); have K4 := hid (K3.out.trans k4 (fun _ _ x => x)); have E4 := hid b4) | (refine wpList_load_en rfl (.tmp 8) rfl w3.heap.size rfl E4.out ?_) | (refine wpList_store_en rfl (.tmp 6) (.tmp 40) rfl w.heap.size rfl (e := zE) (e' := X) rfl B4.out ?_; intro w5 b5 k5))
    refine bodyPost_ret (results_cell_tmp2 Try.results15 _ _ _ rfl rfl b5.load) rfl ⟨rfl, K4.out.trans k5 (fun i h1 h2 => by omega)⟩
  · go_enter Try.func15, Try.ntmps15
    go_wp2_with (first | (go_at_call 11; refine (CB.out _).mono ?_; rintro r w' ⟨rfl, rfl⟩) | (go_at_call 29; refine (VV _).out.mono ?_; rintro r w' ⟨rfl, rfl⟩))
    refine (OF.out _).mono ?_
    rintro r w3 ⟨rfl, k3⟩
    have B3 := hid (HB.out.kp k3 (fun x => x))
    have K3 := hid (HK.out.trans k3 (fun _ _ x => x))
    go_wp2_with (first | (refine wpList_store_en rfl (.tmp 8) (.tmp 35) rfl w3.heap.size rfl (e := zE) (e' := zE) rfl (Eb.new w3 zE) ?_; intro w4 b4 j4; have k4 : Kp (fun _ => False) w3 w4 := ((Kp.refl (fun _ => False) w3).alloc _).trans j4 (fun i h1 h2 => by omega); have B4 := hid (B3.out.kp k4 (fun x => x)); have K4 := hid (K3.out.trans k4 (fun _ _ x => x)); have E4 := hid b4) | (refine wpList_store_en rfl (.tmp 6) (.tmp 39) rfl w.heap.size rfl (e := zE) (e' := zE) rfl B4.out ?_; intro w5 b5 k5))
    refine bodyPost_ret (results_cell_tmp2 Try.results15 _ _ _ rfl rfl b5.load) rfl ⟨rfl, K4.out.trans k5 (fun i h1 h2 => by omega)⟩
/-- The document's Get. -/
theorem rget_any (ao : Option Addr) (cap : Nat) (zs : List Int) (i b : Int) (w : World) (hl : zs.length ≤ 1000000000000) (hcap : zs.length ≤ cap) (hbt : Byt zs) (hs : Src w ao zs) {X : En} {E : Int} (h : GetR zs i b X E) : Calls Try.prog 15 #[.slice ao zs.length cap, .int .i64 i, .int .i64 b] w fun r w' => r = .returned (.tuple #[.agg X.cs, .int .i64 E]) ∧ Kp (fun _ => False) w w' := by
  rcases h with ⟨hb, rfl, rfl⟩ | ⟨hb, hh, rfl, rfl⟩ | ⟨hb, hh, hm, rfl, rfl⟩ | ⟨hb, hh, hm, rfl, rfl⟩
  · exact rget_1 ao _ cap i b w hb
  · exact rget_2 ao _ cap i b w hl hb hh
  · obtain ⟨k, rfl, hk⟩ := hs_nat hh
    rw [Int.toNat_natCast] at hm
    exact rget_3 ao cap zs k b w hl hcap hbt hs hb hk _ _ false (Or.inr ⟨rfl, rfl, rfl⟩) (fun w => rof_no (wd_u6 hbt hk) hb hm)
  · obtain ⟨k, rfl, hk⟩ := hs_nat hh
    rw [Int.toNat_natCast] at hm ⊢
    exact rget_3 ao cap zs k b w hl hcap hbt hs hb hk _ _ true (Or.inl ⟨rfl, rfl⟩) (fun w => rof_yes (wd_u6 hbt hk) hb hm)
end Go.Proofs.Ytkmkhjcmgockkaa
