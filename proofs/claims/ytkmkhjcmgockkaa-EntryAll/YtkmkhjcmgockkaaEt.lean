/- entry: has, Get, the document's Get. -/
import Derived.Test.YtkmkhjcmgockkaaEi
namespace Go.Proofs.Ytkmkhjcmgockkaa
open Go.RowKit
set_option linter.unusedVariables false
/-- A table of n bytes has an entry i. -/
def Hs (n : Nat) (i : Int) : Prop := 0 ≤ i ∧ i < ((n / 8 : Nat) : Int)
/-- Its word. -/
def wd (zs : List Int) (k : Nat) : Int := val ((zs.drop (8 * k)).take 8)
theorem wd_u6 {zs : List Int} (hb : Byt zs) {k : Nat} (hk : k < zs.length / 8) : U6 (wd zs k) := by
  have h := val_bound ((zs.drop (8 * k)).take 8) ((hb.drop _).take _)
  have hl : ((zs.drop (8 * k)).take 8).length = 8 := by simp; omega
  rw [hl] at h
  exact ⟨h.1, by have e : (256 : Int) ^ 8 = 18446744073709551616 := by decide
                 rw [e] at h; exact h.2⟩
set_option maxHeartbeats 1000000 in
theorem has_yes (ao : Option Addr) (len cap k : Nat) (w : World) (hl : len ≤ 1000000000000) (hk : k < len / 8) : Calls Try.prog 27 #[.slice ao len cap, .int .i64 (k : Int)] w fun e w' => e = .returned (.bool true) ∧ w = w' := by
  have hq : (len : Int).tdiv 8 = ((len / 8 : Nat) : Int) := by rw [Int.tdiv_eq_ediv_of_nonneg (by omega)]; omega
  have hq2 : IntKind.i64.wrap ((len / 8 : Nat) : Int) = ((len / 8 : Nat) : Int) := by rw [IntKind.wrap_i64]; omega
  have h1 : (k : Int) < ((len / 8 : Nat) : Int) := by omega
  have h0 : (0 : Int) ≤ (k : Int) := by omega
  generalize len / 8 = q at *
  go_enter Try.func27, Try.ntmps27
  go_wp2_with fail
  go_ret
  exact ⟨by first | rfl | simp [h1], rfl⟩
set_option maxHeartbeats 1000000 in
theorem has_no (ao : Option Addr) (len cap : Nat) (i : Int) (w : World) (hl : len ≤ 1000000000000) (hi : ¬ Hs len i) : Calls Try.prog 27 #[.slice ao len cap, .int .i64 i] w fun e w' => e = .returned (.bool false) ∧ w = w' := by
  have hq : (len : Int).tdiv 8 = ((len / 8 : Nat) : Int) := by rw [Int.tdiv_eq_ediv_of_nonneg (by omega)]; omega
  have hq2 : IntKind.i64.wrap ((len / 8 : Nat) : Int) = ((len / 8 : Nat) : Int) := by rw [IntKind.wrap_i64]; omega
  unfold Hs at hi
  generalize len / 8 = q at *
  by_cases h0 : 0 ≤ i
  · have h1 : ¬ i < (q : Int) := fun h => hi ⟨h0, h⟩
    clear hi
    go_enter Try.func27, Try.ntmps27
    go_wp2_with fail
    go_ret
    exact ⟨by first | rfl | (simp; omega), rfl⟩
  · clear hi
    go_enter Try.func27, Try.ntmps27
    go_wp2_with fail
    go_ret
    exact ⟨by first | rfl | (simp; omega), rfl⟩
/-- What a table's entry is told as. -/
def GetR (zs : List Int) (i b : Int) (X : En) (E : Int) : Prop :=
  (¬ Bt b ∧ X = zE ∧ E = 2) ∨ (Bt b ∧ ¬ Hs zs.length i ∧ X = zE ∧ E = 4) ∨ (Bt b ∧ Hs zs.length i ∧ ¬ MayE (prt (wd zs i.toNat)) b ∧ X = zE ∧ E = 190) ∨ (Bt b ∧ Hs zs.length i ∧ MayE (prt (wd zs i.toNat)) b ∧ X = prt (wd zs i.toNat) ∧ E = 0)
theorem getR_some (zs : List Int) (i b : Int) : ∃ X E, GetR zs i b X E := by
  by_cases hb : Bt b
  · by_cases hh : Hs zs.length i
    · by_cases hm : MayE (prt (wd zs i.toNat)) b
      · exact ⟨_, _, Or.inr (Or.inr (Or.inr ⟨hb, hh, hm, rfl, rfl⟩))⟩
      · exact ⟨_, _, Or.inr (Or.inr (Or.inl ⟨hb, hh, hm, rfl, rfl⟩))⟩
    · exact ⟨_, _, Or.inr (Or.inl ⟨hb, hh, rfl, rfl⟩)⟩
  · exact ⟨_, _, Or.inl ⟨hb, rfl, rfl⟩⟩
set_option maxHeartbeats 1000000 in
theorem eget_1 (ao : Option Addr) (len cap : Nat) (i b : Int) (w : World) (hb : ¬ Bt b) : Calls Try.prog 14 #[.slice ao len cap, .int .i64 i, .int .i64 b] w fun r w' => r = .returned (.tuple #[.agg zE.cs, .int .i64 2]) ∧ Kp (fun _ => False) w w' := by
  have HB := hid (Eb.new w zE)
  have HK : Hid (Kp (fun _ => False) w (w.alloc (.cells zE.cs 24))) := (Kp.refl _ _).alloc _
  have CB := hid (fun w => clustered_no b w hb)
  go_enter Try.func14, Try.ntmps14
  go_wp2_with (first | (go_at_call 24; refine (CB.out _).mono ?_; rintro r w' ⟨rfl, rfl⟩) | (refine wpList_store_en rfl (.tmp 6) (.tmp 13) rfl w.heap.size rfl (e := zE) (e' := zE) rfl HB.out ?_; intro w2 b2 k2))
  refine bodyPost_ret (results_cell_tmp2 Try.results14 _ _ _ rfl rfl b2.load) rfl ⟨rfl, HK.out.trans k2 (fun i h1 h2 => by omega)⟩
set_option maxHeartbeats 1000000 in
theorem eget_2 (ao : Option Addr) (len cap : Nat) (i b : Int) (w : World) (hl : len ≤ 1000000000000) (hb : Bt b) (hh : ¬ Hs len i) : Calls Try.prog 14 #[.slice ao len cap, .int .i64 i, .int .i64 b] w fun r w' => r = .returned (.tuple #[.agg zE.cs, .int .i64 4]) ∧ Kp (fun _ => False) w w' := by
  have HB := hid (Eb.new w zE)
  have HK : Hid (Kp (fun _ => False) w (w.alloc (.cells zE.cs 24))) := (Kp.refl _ _).alloc _
  have CB := hid (fun w => clustered_yes b w hb)
  have HN := hid (fun w => has_no ao len cap i w hl hh)
  go_enter Try.func14, Try.ntmps14
  go_wp2_with (first | (go_at_call 24; refine (CB.out _).mono ?_; rintro r w' ⟨rfl, rfl⟩) | (go_at_call 27; refine (HN.out _).mono ?_; rintro r w' ⟨rfl, rfl⟩) | (refine wpList_store_en rfl (.tmp 6) (.tmp 18) rfl w.heap.size rfl (e := zE) (e' := zE) rfl HB.out ?_; intro w2 b2 k2))
  refine bodyPost_ret (results_cell_tmp2 Try.results14 _ _ _ rfl rfl b2.load) rfl ⟨rfl, HK.out.trans k2 (fun i h1 h2 => by omega)⟩
theorem wget {g off cap : Nat} {zs : List Int} (k : Nat) (hl : zs.length ≤ 1000000000000) (hb : Byt zs) (hk : k < zs.length / 8) (w : World) (hs : Src w (some ⟨g, off, none⟩) zs) : Calls Try.prog 28 #[.slice (some ⟨g, off, none⟩) zs.length cap, .int .i64 ((k : Int) * 8), .int .i64 8] w fun e w' => e = .returned (.tuple #[.int .u64 (wd zs k), .int .i64 0]) ∧ w = w' := by
  have h := get_any g off cap zs ((k : Int) * 8) 8 w (by omega) hb hs.at
  have hn : numE zs.length ((k : Int) * 8) 8 = 0 := numE_mk (by omega) (by omega) (by omega) (by omega)
  rw [hn] at h
  have hv : getV zs ((k : Int) * 8) 8 = wd zs k := by
    unfold getV wd
    rw [if_pos hn, show ((k : Int) * 8).toNat = 8 * k by omega]
    rfl
  rw [hv] at h
  exact h
set_option maxHeartbeats 1000000 in
theorem eget_3 (ao : Option Addr) (cap : Nat) (zs : List Int) (k : Nat) (b : Int) (w : World) (hl : zs.length ≤ 1000000000000) (hbt : Byt zs) (hs : Src w ao zs) (hb : Bt b) (hk : k < zs.length / 8) (X : En) (E : Int) (OF : Hid (∀ w, Calls Try.prog 8 #[.int .u64 (wd zs k), .int .i64 b] w fun r w' => r = .returned (.tuple #[.agg X.cs, .int .i64 E]) ∧ Kp (fun _ => False) w w')) : Calls Try.prog 14 #[.slice ao zs.length cap, .int .i64 (k : Int), .int .i64 b] w fun r w' => r = .returned (.tuple #[.agg X.cs, .int .i64 E]) ∧ Kp (fun _ => False) w w' := by
  have HB := hid (Eb.new w zE)
  have HK : Hid (Kp (fun _ => False) w (w.alloc (.cells zE.cs 24))) := (Kp.refl _ _).alloc _
  obtain ⟨g, off, rfl, _⟩ := hs (by omega)
  have CB := hid (fun w => clustered_yes b w hb)
  have HN := hid (fun w => has_yes (some ⟨g, off, none⟩) zs.length cap k w hl hk)
  have WG := hid (wget (cap := cap) k hl hbt hk _ (hs.kp HK.out))
  have hw : IntKind.i64.wrap ((k : Int) * 8) = (k : Int) * 8 := by rw [IntKind.wrap_i64]; omega
  generalize wd zs k = x at *
  generalize zs.length = len at *
  go_enter Try.func14, Try.ntmps14
  go_wp2_with (first | (go_at_call 24; refine (CB.out _).mono ?_; rintro r w' ⟨rfl, rfl⟩) | (go_at_call 27; refine (HN.out _).mono ?_; rintro r w' ⟨rfl, rfl⟩) | (go_at_call 28; refine WG.out.mono ?_; rintro r w' ⟨rfl, rfl⟩) | (go_at_call 8; refine (OF.out _).mono ?_; rintro r w1 ⟨rfl, k1⟩; have B1 := hid (HB.out.kp k1 (fun x => x))) | (refine wpList_store_en rfl (.tmp 6) (.tmp 29) rfl w.heap.size rfl (e := zE) (e' := X) rfl B1.out ?_; intro w2 b2 k2))
  refine bodyPost_ret (results_cell_tmp2 Try.results14 _ _ _ rfl rfl b2.load) rfl ⟨rfl, (HK.out.trans k1 (fun _ _ x => x)).trans k2 (fun i h1 h2 => by omega)⟩
theorem hs_nat {n : Nat} {i : Int} (h : Hs n i) : ∃ k : Nat, i = (k : Int) ∧ k < n / 8 := by
  obtain ⟨k, rfl⟩ := Int.eq_ofNat_of_zero_le h.1
  exact ⟨k, rfl, by have := h.2; omega⟩
/-- Get. -/
theorem eget_any (ao : Option Addr) (cap : Nat) (zs : List Int) (i b : Int) (w : World) (hl : zs.length ≤ 1000000000000) (hbt : Byt zs) (hs : Src w ao zs) {X : En} {E : Int} (h : GetR zs i b X E) : Calls Try.prog 14 #[.slice ao zs.length cap, .int .i64 i, .int .i64 b] w fun r w' => r = .returned (.tuple #[.agg X.cs, .int .i64 E]) ∧ Kp (fun _ => False) w w' := by
  rcases h with ⟨hb, rfl, rfl⟩ | ⟨hb, hh, rfl, rfl⟩ | ⟨hb, hh, hm, rfl, rfl⟩ | ⟨hb, hh, hm, rfl, rfl⟩
  · exact eget_1 ao _ cap i b w hb
  · exact eget_2 ao _ cap i b w hl hb hh
  · obtain ⟨k, rfl, hk⟩ := hs_nat hh
    rw [Int.toNat_natCast] at hm
    exact eget_3 ao cap zs k b w hl hbt hs hb hk _ _ (fun w => of_no (wd_u6 hbt hk) hb hm)
  · obtain ⟨k, rfl, hk⟩ := hs_nat hh
    rw [Int.toNat_natCast] at hm ⊢
    exact eget_3 ao cap zs k b w hl hbt hs hb hk _ _ (fun w => of_yes (wd_u6 hbt hk) hb hm)
end Go.Proofs.Ytkmkhjcmgockkaa
