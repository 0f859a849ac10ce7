/- Picks: are any below 0? taken one by one; a map is cloned. -/
import Derived.Test.YtalicohflfildaaSo
namespace Go.Proofs.Ytalicohflfildaa
open Go.RowKit

theorem getD_mem (zs : List Int) (k : Nat) (h : k < zs.length) : zs.getD k 0 ∈ zs := by
  rw [List.getD_eq_getElem?_getD, List.getElem?_eq_getElem h]
  exact List.getElem_mem h
set_option maxRecDepth 100000 in
set_option maxHeartbeats 400000 in
theorem neg_any (a : Int) (w : World) : Calls Try.prog 27 #[.int .i64 a] w fun e w' => e = .returned (.bool (decide (a < 0))) ∧ w = w' := by
  go_enter Try.func27, Try.ntmps27
  go_wp2
  go_ret
  exact ⟨rfl, rfl⟩
set_option maxRecDepth 100000 in
set_option maxHeartbeats 1000000 in
theorem indexf_any (ao : Option Addr) (zs : List Int) (n cap : Nat) (w : World) (hn : n = zs.length) (hb : n ≤ 1000000000000) (hS : Src .i64 w ao zs) :
    Calls Try.prog 50 #[.slice ao n cap, .func (.func 27) #[] #[]] w fun e w' => ∃ k : Int, e = .returned (.int .i64 k) ∧ (0 ≤ k ↔ ∃ z ∈ zs, z < 0) ∧ w = w' := by
  have HN : Hid (n = zs.length) := hn
  have HS : Hid (Src .i64 w ao zs) := hS
  clear hn hS
  go_enter Try.func50, Try.ntmps50
  go_wp2
  go_loop [8] (fun i => ∃ k : Nat, k ≤ n ∧ i = .int .i64 k ∧ ∀ j, j < k → ¬ zs.getD j 0 < 0) (fun i => n - (intOf i).toNat)
  case atStart => exact ⟨0, Nat.zero_le _, rfl, fun j hj => by omega⟩
  case round =>
    obtain ⟨k, hk, rfl, hj⟩ := hrel
    have HJ : Hid (∀ j, j < k → ¬ zs.getD j 0 < 0) := hj
    clear hj
    by_cases hlt : k < n
    · obtain ⟨b, off, rfl, hc⟩ := HS.out (by have := HN.out; omega)
      have hck := hc k (by have := HN.out; omega)
      have hmem : zs.getD k 0 ∈ zs := getD_mem zs k (by have := HN.out; omega)
      obtain ⟨z, hz⟩ : ∃ z, z = zs.getD k 0 := ⟨_, rfl⟩
      rw [← hz] at hck hmem
      have HZ : Hid (z = zs.getD k 0) := hz
      have HMEM : Hid (z ∈ zs) := hmem
      clear hz hmem hc
      by_cases hneg : z < 0
      · have hd : decide (z < 0) = true := by simpa using hneg
        go_wp2_with (first | (go_at_call 27; refine (neg_any _ _).mono ?_; rintro e w' ⟨rfl, rfl⟩))
        go_ret
        exact ⟨(k : Int), rfl, ⟨fun _ => ⟨z, HMEM.out, hneg⟩, fun _ => by omega⟩, rfl⟩
      · have hd : decide (z < 0) = false := by simpa using hneg
        go_wp2_with (first | (go_at_call 27; refine (neg_any _ _).mono ?_; rintro e w' ⟨rfl, rfl⟩))
        go_round
        case rel => exact ⟨k + 1, by omega, by go_num, fun j hj => by
          by_cases e : j = k
          · rw [e, ← HZ.out]; omega
          · have := HJ.out j (by omega); omega⟩
        case measure => simp [intOf]; omega
    · obtain rfl : k = n := by omega
      go_wp2
      go_ret
      refine ⟨-1, rfl, ⟨fun h => by omega, fun ⟨z, hz, h⟩ => ?_⟩, rfl⟩
      obtain ⟨j, hj, rfl⟩ := List.getElem_of_mem hz
      have := HJ.out j (by rw [HN.out]; exact hj)
      simp [List.getD, hj] at this
      omega
set_option maxRecDepth 100000 in
set_option maxHeartbeats 1000000 in
theorem containsf_any (ao : Option Addr) (zs : List Int) (n cap : Nat) (w : World) (hn : n = zs.length) (hb : n ≤ 1000000000000) (hS : Src .i64 w ao zs) :
    Calls Try.prog 26 #[.slice ao n cap, .func (.func 27) #[] #[]] w fun e w' => e = .returned (.bool (zs.any (fun z => decide (z < 0)))) ∧ w = w' := by
  have H := indexf_any ao zs n cap w hn hb hS
  have HI : Hid (Calls Try.prog 50 #[.slice ao n cap, .func (.func 27) #[] #[]] w fun e w' => ∃ k : Int, e = .returned (.int .i64 k) ∧ (0 ≤ k ↔ ∃ z ∈ zs, z < 0) ∧ w = w') := H
  clear H hn hS
  go_enter Try.func26, Try.ntmps26
  go_wp2_with (first | (go_at_call 50; refine HI.out.mono ?_; rintro e w' ⟨k, rfl, hk, rfl⟩; have HK : Hid (0 ≤ k ↔ ∃ z ∈ zs, z < 0) := hk; clear hk))
  go_ret
  have hk := HK.out
  refine ⟨ret_bool ?_, rfl⟩
  by_cases h : 0 ≤ k
  · obtain ⟨z, hz, hz2⟩ := hk.1 h
    have : zs.any (fun z => decide (z < 0)) = true := List.any_eq_true.2 ⟨z, hz, by simpa using hz2⟩
    rw [this]; exact decide_eq_true h
  · have : zs.any (fun z => decide (z < 0)) = false := by
      rw [List.any_eq_false]
      intro z hz
      simp
      by_cases h2 : z < 0
      · exact absurd (hk.2 ⟨z, hz, h2⟩) h
      · omega
    rw [this]; exact decide_eq_false h
set_option maxRecDepth 100000 in
set_option maxHeartbeats 400000 in
theorem picker_any (ao : Option Addr) (n cap : Nat) (w : World) : Calls Try.prog 28 #[.slice ao n cap] w fun e w' => e = .returned (.func (.func 51) #[] #[.pointer (some ⟨w.heap.size + 1, 0, none⟩), .pointer (some ⟨w.heap.size, 0, none⟩)]) ∧ w' = (w.alloc (.cells #[.slice ao n cap] 24)).alloc (.cells #[.int .i64 0] 3) := by
  go_enter Try.func28, Try.ntmps28
  go_wp2
  go_ret
  exact ⟨rfl, rfl⟩
/-- The pick of number k. -/
def pck (zs : List Int) (k : Nat) : Bool := zs.getD k 0 % 2 == 1
set_option maxRecDepth 100000 in
set_option maxHeartbeats 1000000 in
theorem pick_any (Bn Bp : Nat) (ao : Option Addr) (zs : List Int) (n cap k : Nat) (w : World) (hne : Bn ≠ Bp) (hn : n = zs.length) (hb : n ≤ 1000000000000) (hz : ∀ z ∈ zs, 0 ≤ z) (hk : k ≤ n) (s1 : St 3 w Bn #[.int .i64 k]) (s2 : St 24 w Bp #[.slice ao n cap]) (hS : Src .i64 w ao zs) (hno : 0 < n → ∀ b off, ao = some ⟨b, off, none⟩ → b ≠ Bn) :
    Calls Try.prog 51 #[.pointer (some ⟨Bn, 0, none⟩), .pointer (some ⟨Bp, 0, none⟩)] w fun e w' => e = .returned (.bool (if k < n then pck zs k else false)) ∧ St 3 w' Bn #[.int .i64 ((if k < n then k + 1 else k : Nat) : Int)] ∧ Kp (fun i => i = Bn) w w' := by
  have c1 : w.cell? ⟨Bn, 0, none⟩ = some (.int .i64 k) := s1.cell 0
  have c2 : w.cell? ⟨Bp, 0, none⟩ = some (.slice ao n cap) := s2.cell 0
  have f1 := s1.frozen 0
  by_cases hlt : k < n
  · rw [if_pos hlt, if_pos hlt]
    have hkb : ((k : Int) == (n : Int)) = false := beq_eq_false_iff_ne.2 (by omega)
    obtain ⟨b, off, rfl, hc⟩ := hS (by omega)
    have hck := hc k (by omega)
    obtain ⟨z, hzz⟩ : ∃ z, z = zs.getD k 0 := ⟨_, rfl⟩
    have hz0 : 0 ≤ z := by
      rw [hzz]
      exact hz _ (getD_mem zs k (by omega))
    rw [← hzz] at hck
    have hbn := hno (by omega) b off rfl
    have x2 : ∀ v, (w.setCell ⟨Bn, 0, none⟩ v).cell? ⟨Bp, 0, none⟩ = some (.slice (some ⟨b, off, none⟩) n cap) := fun v => kp_cell (kp_setCell w Bn 0 v (fun i => i = Bn) rfl) c2 (fun e => hne e.symm)
    have x3 : ∀ v, (w.setCell ⟨Bn, 0, none⟩ v).cell? ⟨b, off + k, none⟩ = some (.int .i64 z) := fun v => kp_cell (kp_setCell w Bn 0 v (fun i => i = Bn) rfl) hck hbn
    have x1 : ∀ v, (w.setCell ⟨Bn, 0, none⟩ v).cell? ⟨Bn, 0, none⟩ = some v := fun v => World.cell?_setCell_same' _ _ _ (by rw [c1]; rfl)
    have HS1 : Hid (St 3 w Bn #[.int .i64 k]) := s1
    have HZ : Hid (pck zs k = (z % 2 == 1)) := by show _ = _; unfold pck; rw [← hzz]
    have hadd : (k : Int) + 1 - 1 = (k : Int) := by omega
    clear hzz hc s1 s2 hS hz hno hn
    rw [HZ.out]
    go_enter Try.func51, Try.ntmps51
    go_wp2
    go_ret
    exact ⟨rfl, HS1.out.set 0 _, kp_setCell _ _ _ _ _ rfl⟩
  · obtain rfl : k = n := by omega
    rw [if_neg hlt, if_neg hlt]
    have HS1 : Hid (St 3 w Bn #[.int .i64 k]) := s1
    have hkb : ((k : Int) == (k : Int)) = true := beq_self_eq_true _
    clear s1 s2 hS hno hz
    go_enter Try.func51, Try.ntmps51
    go_wp2
    go_ret
    exact ⟨rfl, HS1.out, Kp.refl _ _⟩
theorem run_clone (P : Program) (w : World) (t : TypeId) {r : Nat} {es : Array MapEntry} {c : Nat} (hb : w.heap[r]? = some (.map es c)) : (Extern.MapsClone.clone #[.iface t (.map (some r))]).run P w = .ok (.iface t (.map (some w.heap.size))) (w.alloc (.map es c)) := by
  have e : Extern.MapsClone.clone #[.iface t (.map (some r))] = (getObj r >>= fun o => match o with | .map es c => (newObj (.map es c) >>= fun n => pure (.iface t (.map (some n)))) | _ => stuck "maps.clone: a map expected") := rfl
  rw [e]
  simp [MapKept.run_getObj_map hb]
set_option maxRecDepth 100000 in
set_option maxHeartbeats 1000000 in
/-- maps.Clone of sectors. -/
theorem clone_any (m c : Nat) (es : List (Int × Value × Nat)) (w : World) (hm : Mp (Value.int .i64) w m es c) : Calls Try.prog 52 #[.map (some m)] w fun e w' => e = .returned (.map (some w.heap.size)) ∧ Mp (Value.int .i64) w' w.heap.size es c ∧ w' = w.alloc (.map (es.map (ent (Value.int .i64))).toArray c) := by
  have he : ∀ w : World, (binOp .eql 67 (.map (some m)) (.map none)).run Try.prog w = .ok (.bool false) w := fun _ => rfl
  have HM : Hid (Mp (Value.int .i64) w m es c) := hm
  have hta : ∀ (w : World) (b : Nat), (Instr.typeAssert (.iface 67 (.map (some b))) 20 67 false).run Try.prog w = .ok (.map (some b)) w := fun _ _ => rfl
  clear hm
  go_enter Try.func52, Try.ntmps52
  go_wp2
  rw [run_callFunc_extern Try.func69 (by kernel_rfl) (by kernel_rfl) (by kernel_rfl) (e := Extern.MapsClone.clone) (by kernel_rfl), run_clone Try.prog w 67 HM.out.1]
  simp only [Result.andThen]
  rw [Oper.upon_value]
  go_wp2
  go_ret
  exact ⟨rfl, ⟨(MapKept.heap_alloc w _).1, HM.out.2⟩, rfl⟩
end Go.Proofs.Ytalicohflfildaa
