/- EntryAll where the table is long. -/
import Derived.Test.YtkmkhjcmgockkaaAr
namespace Go.Proofs.Ytkmkhjcmgockkaa
open Go.RowKit Go.Shelf
attribute [local go_sem] Oper.semAt_some
set_option linter.unusedVariables false
set_option maxRecDepth 100000 in
set_option maxHeartbeats 8000000 in
theorem alls_long (ao : Option Addr) (len cap : Nat) (b lv : Int) (w : World) (hl : 10000 < len) : Calls Try.prog 5 #[.slice ao len cap, .int .i64 b, .int .i64 lv] w fun r w' => r = .returned (.bool true) ∧ Kp (fun _ => False) w w' := by
  have KN := hid known_any
  have hli : (10000 : Int) < (len : Int) := by omega
  have hld : decide ((10000 : Int) < (len : Int)) = true := by simp; omega
  have k0 : Kp (fun _ => False) w ((((w.alloc (.cells #[.slice ao len cap] 39)).alloc (.cells #[.int .i64 b] 3)).alloc (.cells #[.int .i64 lv] 3)).alloc (.cells #[.bool false] 4)) := ((((Kp.refl _ _).alloc _).alloc _).alloc _).alloc _
  have sR : St 4 ((((w.alloc (.cells #[.slice ao len cap] 39)).alloc (.cells #[.int .i64 b] 3)).alloc (.cells #[.int .i64 lv] 3)).alloc (.cells #[.bool false] 4)) (w.heap.size + 1 + 1 + 1) #[.bool false] := by
    have h := St.new 4 (((w.alloc (.cells #[.slice ao len cap] 39)).alloc (.cells #[.int .i64 b] 3)).alloc (.cells #[.int .i64 lv] 3)) #[.bool false]
    simpa using h
  have K0 := hid k0
  have SR := hid sR
  clear k0 sR
  refine (callsIn_wide (n := 20)).1 ?_
  refine callsIn_of_wp_marks Try.func5 rfl trivial ?_ rfl
  simp only [Try.ntmps5, List.size_toArray, List.length_cons, List.length_nil, Nat.reduceAdd, Nat.reduceSub, Array.replicate_succ, Array.replicate_zero, List.push_toArray, List.append_toArray, List.nil_append, List.cons_append]
  gi_wp2_with fail
  generalize ((((w.alloc (.cells #[.slice ao len cap] 39)).alloc (.cells #[.int .i64 b] 3)).alloc (.cells #[.int .i64 lv] 3)).alloc (.cells #[.bool false] 4)) = w0 at *
  generalize hT : w.heap.size = T at *
  refine ⟨trivial, (callsIn_wide.2 (KN.out w0)).mono ?_⟩
  rintro r V3 ⟨rfl, k3⟩
  have K3 := hid k3
  have SR3 := hid (SR.out.kp k3 (fun x => x))
  have cR : V3.cell? ⟨T + 1 + 1 + 1, 0, none⟩ = some (.bool false) := SR3.out.cell 0
  have fR : V3.frozen? ⟨T + 1 + 1 + 1, 0, none⟩ = false := SR3.out.frozen 0
  have lR : T + 1 + 1 + 1 < V3.heap.size := SR3.out.lt
  clear k3
  gi_wp2_with fail
  have k4 := kp_setCell V3 (T + 1 + 1 + 1) 0 (.bool true) (fun j => j = T + 1 + 1 + 1) rfl
  have s4 := SR3.out.set 0 (.bool true)
  refine ⟨_, results_cell1 Try.results5 _ _ (T + 1 + 1 + 1) rfl (load_bool4 (s4.cell 0)), rfl, ?_⟩
  exact (K0.out.trans K3.out (fun _ _ x => x)).trans k4 (fun i h1 h2 => by omega)
end Go.Proofs.Ytkmkhjcmgockkaa
