/- New and Feed without fates. -/
import Derived.Test.YtlnknkeagonmpaaGreatCr
import Derived.Laws.AppendOwnNone
namespace Go.Proofs.YtlnknkeagonmpaaGreat
open Go.RowKit

set_option maxRecDepth 100000 in
theorem index58_nil (f : Value) (w : World) : Calls Tryz.prog 92 #[.slice none 0 0, f] w fun e w' => e = .returned (.int .i64 (-1)) ∧ w = w' := by
  go_enter Tryz.func92, Tryz.ntmps92
  go_wp2
  go_loop [8] (fun i => i = .int .i64 0) (fun _ => 0)
  case atStart => rfl
  case round =>
    subst hrel
    go_wp2
    go_ret
    exact ⟨rfl, rfl⟩
set_option maxRecDepth 100000 in
theorem contains58_nil (f : Value) (w : World) : Calls Tryz.prog 77 #[.slice none 0 0, f] w fun e w' => e = .returned (.bool false) ∧ w = w' := by
  go_enter Tryz.func77, Tryz.ntmps77
  go_wp2_with (first | (go_at_call 92; refine (index58_nil _ _).mono ?_; rintro e w' ⟨rfl, rfl⟩))
  go_ret
  exact ⟨rfl, rfl⟩
set_option maxRecDepth 100000 in
set_option maxHeartbeats 1000000 in
theorem feed_none (g fm steps : Nat) (w : World) (hs : St 58 w g #[.map (some fm), .slice none 0 0, .int .i64 steps]) : Calls Tryz.prog 50 #[.pointer (some ⟨g, 0, none⟩), .slice none 0 0] w fun e w' => e = .returned (.int .i64 0) ∧ St 58 w' g #[.map (some fm), .slice none 0 0, .int .i64 steps] ∧ Kp (fun i => i = g) w w' := by
  have c0 : w.cell? ⟨g, 0, none⟩ = some (.map (some fm)) := hs.cell 0
  have c1 : w.cell? ⟨g, 1, none⟩ = some (.slice none 0 0) := hs.cell 1
  have f1 := hs.frozen 1
  have HS : Hid (St 58 w g #[.map (some fm), .slice none 0 0, .int .i64 steps]) := hs
  clear hs
  go_enter Tryz.func50, Tryz.ntmps50
  go_wp2_with (first | (go_at_call 57; refine (none_live _ _ _ c0).mono ?_; rintro e w' ⟨rfl, rfl⟩) | (go_at_call 77; refine (contains58_nil _ _).mono ?_; rintro e w' ⟨rfl, rfl⟩))
  go_ret
  have h := HS.out.set 1 (.slice none 0 0)
  exact ⟨rfl, h, kp_setCell _ _ _ _ _ rfl⟩
theorem sr_new (D : Nat → Prop) {w : World} {g fm : Nat} (hs : St 58 w g #[.map (some fm), .slice none 0 0, .int .i64 0]) (hm : Mp Value.string w fm [] 0) (hne : g ≠ fm) (hd : ∀ i, D i → i < w.heap.size) (hn : ∀ i, D i → i ≠ g ∧ i ≠ fm) : Sr D w g fm (.slice none 0 0) 0 [] [] [] 0 := by
  refine ⟨hs, hm, rfl, (fun f hf => by cases hf), (fun f hf => by cases hf), .inl ⟨rfl, rfl⟩, ?_, fun i hi h => ?_, hd, by omega, by simp⟩
  · simp [ownS, ownF, Value.ownBlock, hne]
  · rcases mem_ownS.1 h with h | h | h | ⟨f, hf, _⟩
    · exact (hn i hi).1 h
    · exact (hn i hi).2 h
    · cases h
    · cases hf
set_option maxRecDepth 100000 in
set_option maxHeartbeats 1000000 in
theorem new_none (w : World) : Calls Tryz.prog 22 #[.slice none 0 0] w fun e w' => e = .returned (.tuple #[.pointer (some ⟨w.heap.size + 1, 0, none⟩), .int .i64 0]) ∧ Sr (fun i => i < w.heap.size) w' (w.heap.size + 1) w.heap.size (.slice none 0 0) 0 [] [] [] 0 ∧ Kp (fun _ => False) w w' := by
  have hmm := @run_makeMap Tryz.prog
  have st := St.new 58 (w.alloc (.map #[] 0)) #[.map (some w.heap.size), .slice none 0 0, .int .i64 0]
  have m1 : Mp Value.string ((w.alloc (.map #[] 0)).alloc (.cells #[.map (some w.heap.size), .slice none 0 0, .int .i64 0] 58)) w.heap.size [] 0 := kp_mp (F := fun _ => False) (Mp.new Value.string w) ((Kp.refl _ _).alloc _) (fun h => h)
  have k1 : Kp (fun _ => False) w ((w.alloc (.map #[] 0)).alloc (.cells #[.map (some w.heap.size), .slice none 0 0, .int .i64 0] 58)) := ((Kp.refl _ _).alloc _).alloc _
  rw [World.size_alloc] at st
  go_enter Tryz.func22, Tryz.ntmps22
  go_wp2_with fail
  have h : Hid (St 58 ((w.alloc (.map #[] 0)).alloc (.cells #[.map (some w.heap.size), .slice none 0 0, .int .i64 0] 58)) (w.heap.size + 1) #[.map (some w.heap.size), .slice none 0 0, .int .i64 0]) := st
  have HM : Hid (Mp Value.string ((w.alloc (.map #[] 0)).alloc (.cells #[.map (some w.heap.size), .slice none 0 0, .int .i64 0] 58)) w.heap.size [] 0) := m1
  have HK : Hid (Kp (fun _ => False) w ((w.alloc (.map #[] 0)).alloc (.cells #[.map (some w.heap.size), .slice none 0 0, .int .i64 0] 58))) := k1
  clear st m1 k1 hmm
  generalize (w.alloc (.map #[] 0)).alloc (.cells #[.map (some w.heap.size), .slice none 0 0, .int .i64 0] 58) = W at h HM HK ⊢
  refine (feed_none (w.heap.size + 1) w.heap.size 0 W h.out).mono ?_
  rintro e w2 ⟨rfl, st2, k2⟩
  go_wp2
  go_ret2
  have k02 : Kp (fun _ => False) w w2 := HK.out.trans k2 (fun i hi h => by omega)
  refine ⟨rfl, sr_new _ st2 (kp_mp HM.out k2 (by omega)) (by omega) (fun i hi => Nat.lt_of_lt_of_le hi k02.size) (fun i hi => ⟨by omega, by omega⟩), k02⟩
end Go.Proofs.YtlnknkeagonmpaaGreat
