/- Picks: are any below 0? taken one by one; a map is cloned. -/
import Derived.Test.YtlnknkeagonmpaaGreatSo
namespace Go.Proofs.YtlnknkeagonmpaaGreat
open Go.RowKit

theorem getD_mem (zs : List Int) (k : Nat) (h : k < zs.length) : zs.getD k 0 ∈ zs := by
  rw [List.getD_eq_getElem?_getD, List.getElem?_eq_getElem h]
  exact List.getElem_mem h
set_option maxRecDepth 100000 in
set_option maxHeartbeats 400000 in
theorem neg_any (a : Int) (w : World) : Calls Tryz.prog 48 #[.int .i64 a] w fun e w' => e = .returned (.bool (decide (a < 0))) ∧ w = w' := by
  go_enter Tryz.func48, Tryz.ntmps48
  go_wp2
  go_ret
  exact ⟨rfl, rfl⟩
set_option maxRecDepth 100000 in
set_option maxHeartbeats 1000000 in
theorem indexf_any (ao : Option Addr) (zs : List Int) (n cap : Nat) (w : World) (hn : n = zs.length) (hb : n ≤ 1000000000000) (hS : Src .i64 w ao zs) :
    Calls Tryz.prog 75 #[.slice ao n cap, .func (.func 48) #[] #[]] w fun e w' => ∃ k : Int, e = .returned (.int .i64 k) ∧ (0 ≤ k ↔ ∃ z ∈ zs, z < 0) ∧ w = w' := by
  have HN : Hid (n = zs.length) := hn
  have HS : Hid (Src .i64 w ao zs) := hS
  clear hn hS
  go_enter Tryz.func75, Tryz.ntmps75
  go_wp2
  go_loop [8] (fun i => ∃ k : Nat, k ≤ n ∧ i = .int .i64 k ∧ ∀ j, j < k → ¬ zs.getD j 0 < 0) (fun i => n - (intOf i).toNat)
  case atStart => exact ⟨0, Nat.zero_le _, rfl, fun j hj => by omega⟩
  case round =>
    obtain ⟨k, hk, rfl, hj⟩ := hrel
    have HJ : Hid (∀ j, j < k → ¬ zs.getD j 0 < 0) := hj
    clear hj
    by_cases hlt : k < n
    · obtain ⟨b, off, rfl, hc⟩ := HS.out (by have := HN.out; omega)
      have hck := hc k (by have := HN.out; omega)
      have hmem : zs.getD k 0 ∈ zs := getD_mem zs k (by have := HN.out; omega)
      obtain ⟨z, hz⟩ : ∃ z, z = zs.getD k 0 := ⟨_, rfl⟩
      rw [← hz] at hck hmem
      have HZ : Hid (z = zs.getD k 0) := hz
      have HMEM : Hid (z ∈ zs) := hmem
      clear hz hmem hc
      by_cases hneg : z < 0
      · have hd : decide (z < 0) = true := by simpa using hneg
        go_wp2_with (first | (go_at_call 48; refine (neg_any _ _).mono ?_; rintro e w' ⟨rfl, rfl⟩))
        go_ret
        exact ⟨(k : Int), rfl, ⟨fun _ => ⟨z, HMEM.out, hneg⟩, fun _ => by omega⟩, rfl⟩
      · have hd : decide (z < 0) = false := by simpa using hneg
        go_wp2_with (first | (go_at_call 48; refine (neg_any _ _).mono ?_; rintro e w' ⟨rfl, rfl⟩))
        go_round
        case rel => exact ⟨k + 1, by omega, by go_num, fun j hj => by
          by_cases e : j = k
          · rw [e, ← HZ.out]; omega
          · have := HJ.out j (by omega); omega⟩
        case measure => simp [intOf]; omega
    · obtain rfl : k = n := by omega
      go_wp2
      go_ret
      refine ⟨-1, rfl, ⟨fun h => by omega, fun ⟨z, hz, h⟩ => ?_⟩, rfl⟩
      obtain ⟨j, hj, rfl⟩ := List.getElem_of_mem hz
      have := HJ.out j (by rw [HN.out]; exact hj)
      simp [List.getD, hj] at this
      omega
set_option maxRecDepth 100000 in
set_option maxHeartbeats 1000000 in
theorem containsf_any (ao : Option Addr) (zs : List Int) (n cap : Nat) (w : World) (hn : n = zs.length) (hb : n ≤ 1000000000000) (hS : Src .i64 w ao zs) :
    Calls Tryz.prog 47 #[.slice ao n cap, .func (.func 48) #[] #[]] w fun e w' => e = .returned (.bool (zs.any (fun z => decide (z < 0)))) ∧ w = w' := by
  have H := indexf_any ao zs n cap w hn hb hS
  have HI : Hid (Calls Tryz.prog 75 #[.slice ao n cap, .func (.func 48) #[] #[]] w fun e w' => ∃ k : Int, e = .returned (.int .i64 k) ∧ (0 ≤ k ↔ ∃ z ∈ zs, z < 0) ∧ w = w') := H
  clear H hn hS
  go_enter Tryz.func47, Tryz.ntmps47
  go_wp2_with (first | (go_at_call 75; refine HI.out.mono ?_; rintro e w' ⟨k, rfl, hk, rfl⟩; have HK : Hid (0 ≤ k ↔ ∃ z ∈ zs, z < 0) := hk; clear hk))
  go_ret
  have hk := HK.out
  refine ⟨ret_bool ?_, rfl⟩
  by_cases h : 0 ≤ k
  · obtain ⟨z, hz, hz2⟩ := hk.1 h
    have : zs.any (fun z => decide (z < 0)) = true := List.any_eq_true.2 ⟨z, hz, by simpa using hz2⟩
    rw [this]; exact decide_eq_true h
  · have : zs.any (fun z => decide (z < 0)) = false := by
      rw [List.any_eq_false]
      intro z hz
      simp
      by_cases h2 : z < 0
      · exact absurd (hk.2 ⟨z, hz, h2⟩) h
      · omega
    rw [this]; exact decide_eq_false h
/-- The pick of number k. -/
def pck (zs : List Int) (k : Nat) : Bool := zs.getD k 0 % 2 == 1
theorem run_clone (P : Program) (w : World) (t : TypeId) {r : Nat} {es : Array MapEntry} {c : Nat} (hb : w.heap[r]? = some (.map es c)) : (Extern.MapsClone.clone #[.iface t (.map (some r))]).run P w = .ok (.iface t (.map (some w.heap.size))) (w.alloc (.map es c)) := by
  have e : Extern.MapsClone.clone #[.iface t (.map (some r))] = (getObj r >>= fun o => match o with | .map es c => (newObj (.map es c) >>= fun n => pure (.iface t (.map (some n)))) | _ => stuck "maps.clone: a map expected") := rfl
  rw [e]
  simp [MapKept.run_getObj_map hb]
end Go.Proofs.YtlnknkeagonmpaaGreat
